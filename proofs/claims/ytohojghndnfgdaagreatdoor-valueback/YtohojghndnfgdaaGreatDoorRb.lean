import Derived.Test.YtohojghndnfgdaaGreatDoorRa
/-
  DERIVED. Texts as lists of bytes: groups and pieces.
-/
namespace Go.Proofs.YtohojghndnfgdaaGreatDoor
open Go Go.Proofs Go.RowKit

def BA (l : List UInt8) : ByteArray := ⟨l.toArray⟩
theorem BA_list (l : List UInt8) : (BA l).data.toList = l := by unfold BA; simp
theorem BA_of (x : ByteArray) : BA x.data.toList = x := by cases x; rfl
theorem BA_size (l : List UInt8) : (BA l).size = l.length := by unfold BA; simp [ByteArray.size]
theorem get_l (s : ByteArray) (k : Nat) (h : k < s.size) : s.data.toList[k]? = some (s.get! k) := by
  rw [← get_get! s k h]
  show s.data.toList[k]? = some s.data[k]
  rw [Array.getElem?_toList, Array.getElem?_eq_getElem]
theorem ext_l (s : ByteArray) (a b : Nat) : (s.extract a b).data.toList = (s.data.toList.drop a).take (b - a) := by
  rw [ByteArray.data_extract, Array.toList_extract]
theorem drop_at (s : ByteArray) (p k : Nat) (hp : p ≤ k) (hk : k < s.size) : s.data.toList.drop p = (s.extract p k).data.toList ++ s.get! k :: s.data.toList.drop (k + 1) := by
  have h1 : k < s.data.toList.length := by rw [Array.length_toList]; exact hk
  have h2 : s.data.toList.drop k = s.get! k :: s.data.toList.drop (k + 1) := by
    rw [List.drop_eq_getElem_cons h1]
    congr 1
    have := get_l s k hk
    rw [List.getElem?_eq_getElem h1] at this
    exact Option.some.inj this
  rw [ext_l, ← h2]
  have h3 := List.take_append_drop (k - p) (s.data.toList.drop p)
  rw [List.drop_drop, show p + (k - p) = k by omega] at h3
  exact h3.symm
theorem not_in (s : ByteArray) (c : UInt8) (p k : Nat) (hk : k ≤ s.size) (h : ∀ j, p ≤ j → j < k → (s.get! j).toNat ≠ c.toNat) : c ∉ (s.extract p k).data.toList := by
  intro hc
  rw [ext_l] at hc
  obtain ⟨i, hi⟩ := List.getElem?_of_mem hc
  have hlt : i < k - p := by
    have := (List.getElem?_eq_some_iff.1 hi).1
    rw [List.length_take] at this
    omega
  rw [List.getElem?_take, if_pos hlt, List.getElem?_drop, get_l s (p + i) (by omega)] at hi
  exact h (p + i) (by omega) (by omega) (by rw [Option.some.inj hi])
theorem ext_end (s : ByteArray) (p : Nat) : s.extract p s.size = BA (s.data.toList.drop p) := by
  rw [← BA_of (s.extract p s.size), ext_l, List.take_of_length_le (by rw [List.length_drop, Array.length_toList]; exact Nat.le_refl _)]

/-- Cut at a mark: the pieces as lists. -/
theorem cx_sp (s : ByteArray) (c : UInt8) : ∀ (n p : Nat), n = s.size - p → p ≤ s.size → cx s c.toNat p = (sp c (s.data.toList.drop p)).map BA := by
  intro n
  induction n using Nat.strongRecOn with
  | _ n ih =>
    intro p hn hp
    have hno := fx_no s c.toNat n p hn
    have hge := fx_ge s c.toNat p
    by_cases h : fx s c.toNat p < s.size
    · have hat := fx_at s c.toNat n p hn h
      rw [cx_more s _ p h, ih (s.size - (fx s c.toNat p + 1)) (by omega) _ rfl (by omega), drop_at s p _ hge h]
      have hc : s.get! (fx s c.toNat p) = c := UInt8.toNat_inj.1 hat
      rw [hc, sp_app c _ _ (not_in s c p _ (by omega) hno), List.map_cons, BA_of]
    · have hle := fx_le s c.toNat p hp
      have he : fx s c.toNat p = s.size := by omega
      rw [cx_last s _ p h, ext_end s p]
      have := not_in s c p s.size (Nat.le_refl _) (by rw [he] at hno; exact hno)
      rw [ext_end, BA_list] at this
      rw [sp_none c _ this]
      rfl

def unb (l : List UInt8) : Prop := ∀ b ∈ l, barI (b.toNat : Int) = false
/-- A group, read: its pieces. -/
theorem scn_sp (G : ByteArray) : ∀ (f p c fr : Nat) (acc : List ByteArray), p + f = G.size → fr ≤ p → (∀ j, fr ≤ j → j < p → (G.get! j).toNat ≠ 94) → c ≤ 4 →
    ((scn G f p c fr acc).1 = none ↔ unb (G.data.toList.drop p) ∧ c + (sp 94 (G.data.toList.drop fr)).length ≤ 5) ∧ ((scn G f p c fr acc).1 = none → (scn G f p c fr acc).2 = acc ++ (sp 94 (G.data.toList.drop fr)).map BA)
  | 0, p, c, fr, acc, hp, hf, hj, hc => by
    obtain rfl : p = G.size := by omega
    have hni := not_in G 94 fr G.size (Nat.le_refl _) hj
    rw [ext_end, BA_list] at hni
    rw [sp_none 94 _ hni, scn]
    have hd : G.data.toList.drop G.size = [] := List.drop_eq_nil_of_le (by rw [Array.length_toList]; exact Nat.le_refl _)
    refine ⟨⟨fun _ => ⟨(by rw [hd]; intro b hb; cases hb), (by simp; omega)⟩, fun _ => rfl⟩, fun _ => ?_⟩
    rw [ext_end]
    rfl
  | f + 1, p, c, fr, acc, hp, hf, hj, hc => by
    have hps : p < G.size := by omega
    have hd := drop_at G p p (Nat.le_refl _) hps
    have hz : (G.extract p p).data.toList = [] := by rw [ext_l]; simp
    rw [hz, List.nil_append] at hd
    rw [scn]
    by_cases hb : barI ((G.get! p).toNat : Int) = true
    · rw [if_pos hb]
      refine ⟨⟨fun h => (by cases h), fun h => ?_⟩, fun h => (by cases h)⟩
      have := h.1 (G.get! p) (by rw [hd]; simp)
      rw [hb] at this
      cases this
    · have hbf : barI ((G.get! p).toNat : Int) = false := by simpa using hb
      have hun : unb (G.data.toList.drop p) ↔ unb (G.data.toList.drop (p + 1)) := by
        rw [hd]
        constructor
        · intro h b hb; exact h b (List.mem_cons_of_mem _ hb)
        · intro h b hb'
          rcases List.mem_cons.1 hb' with rfl | hb'
          · exact hbf
          · exact h b hb'
      rw [if_neg hb]
      by_cases h94 : (G.get! p).toNat = 94
      · rw [if_pos h94]
        have hcc : G.get! p = 94 := UInt8.toNat_inj.1 h94
        have hdf := drop_at G fr p hf hps
        rw [hcc] at hdf
        have hni := not_in G 94 fr p (by omega) hj
        rw [hdf, sp_app 94 _ _ hni]
        have hpos := List.length_pos_iff.2 (sp_ne 94 (G.data.toList.drop (p + 1)))
        by_cases h4 : c = 4
        · rw [if_pos h4]
          refine ⟨⟨fun h => (by cases h), fun h => ?_⟩, fun h => (by cases h)⟩
          have := h.2
          rw [List.length_cons] at this
          omega
        · rw [if_neg h4]
          obtain ⟨i1, i2⟩ := scn_sp G f (p + 1) (c + 1) (p + 1) (acc ++ [G.extract fr p]) (by omega) (Nat.le_refl _) (fun j h1 h2 => by omega) (by omega)
          refine ⟨?_, fun h => ?_⟩
          · rw [i1, hun, List.length_cons]
            constructor
            · rintro ⟨h1, h2⟩; exact ⟨h1, by omega⟩
            · rintro ⟨h1, h2⟩; exact ⟨h1, by omega⟩
          · rw [i2 h, List.map_cons, BA_of, List.append_assoc]
            rfl
      · rw [if_neg h94]
        obtain ⟨i1, i2⟩ := scn_sp G f (p + 1) c fr acc (by omega) (by omega) (fun j h1 h2 => by
          by_cases e : j = p
          · subst e; exact h94
          · exact hj j h1 (by omega)) hc
        exact ⟨by rw [i1, hun], i2⟩
theorem gR_sp (l : List UInt8) : ((gR (BA l)).1 = none ↔ unb l ∧ (sp 94 l).length ≤ 5 ∧ rn (BA l) 0 ≤ 64) ∧ ((gR (BA l)).1 = none → (gR (BA l)).2 = (sp 94 l).map BA) := by
  obtain ⟨h1, h2⟩ := scn_sp (BA l) (BA l).size 0 0 0 [] (by omega) (Nat.le_refl _) (fun j h1 h2 => by omega) (by omega)
  rw [BA_list, List.drop_zero, List.nil_append, Nat.zero_add] at *
  unfold gR
  by_cases hs : (scn (BA l) (BA l).size 0 0 0 []).1 = none
  · rw [if_neg (by simp [hs])]
    by_cases hr : 64 < rn (BA l) 0
    · rw [if_pos hr]
      exact ⟨⟨fun h => (by cases h), fun h => absurd h.2.2 (by omega)⟩, fun h => (by cases h)⟩
    · rw [if_neg hr]
      exact ⟨⟨fun _ => ⟨(h1.1 hs).1, (h1.1 hs).2, by omega⟩, fun _ => rfl⟩, fun _ => h2 hs⟩
  · rw [if_pos (by simpa using hs)]
    exact ⟨⟨fun h => absurd h hs, fun h => absurd (h1.2 ⟨h.1, h.2.1⟩) hs⟩, fun h => absurd h hs⟩

/-- A mark behind a text makes no rune of it other. -/
theorem dec_snoc (l : List UInt8) (p : Nat) (hp : p < l.length) : (Utf8.decode (BA (l ++ [94])) p).2 = (Utf8.decode (BA l) p).2 := by
  have hs1 := BA_size l
  have hs2 : (BA (l ++ [94])).size = l.length + 1 := by rw [BA_size]; simp
  have e : ∀ k, k < l.length → (BA (l ++ [94])).get! k = (BA l).get! k := fun k hk => by
    have a := get_l (BA (l ++ [94])) k (by omega)
    have b := get_l (BA l) k (by omega)
    rw [BA_list, List.getElem?_append_left hk] at a
    rw [BA_list] at b
    exact Option.some.inj (a.symm.trans b)
  have e9 : (BA (l ++ [94])).get! l.length = 94 := by
    have a := get_l (BA (l ++ [94])) l.length (by omega)
    rw [BA_list] at a
    simp at a
    exact a.symm
  have ct : ∀ k, (decide (p + k < (BA (l ++ [94])).size) && ((BA (l ++ [94])).get! (p + k)).toNat / 64 == 2) = (decide (p + k < (BA l).size) && ((BA l).get! (p + k)).toNat / 64 == 2) := fun k => by
    by_cases h : p + k < l.length
    · rw [e _ h, hs1, hs2, decide_eq_true h, decide_eq_true (by omega)]
    · rw [hs1, decide_eq_false h, Bool.false_and]
      by_cases h2 : p + k = l.length
      · rw [h2, e9]
        simp
      · rw [decide_eq_false (by omega), Bool.false_and]
  have cv : ∀ k, (decide (p + k < (BA l).size) && ((BA l).get! (p + k)).toNat / 64 == 2) = true → (BA (l ++ [94])).get! (p + k) = (BA l).get! (p + k) := fun k h => by
    apply e
    simp at h
    omega
  unfold Utf8.decode
  simp only [ct, e (p + 0) (by omega)]
  have c1 := cv 1
  have c2 := cv 2
  have c3 := cv 3
  generalize (decide (p + 1 < (BA l).size) && ((BA l).get! (p + 1)).toNat / 64 == 2) = b1 at *
  generalize (decide (p + 2 < (BA l).size) && ((BA l).get! (p + 2)).toNat / 64 == 2) = b2 at *
  generalize (decide (p + 3 < (BA l).size) && ((BA l).get! (p + 3)).toNat / 64 == 2) = b3 at *
  cases b1
  · simp
  · rw [c1 rfl]
    cases b2
    · simp
    · rw [c2 rfl]
      cases b3
      · simp
      · rw [c3 rfl]
theorem rn_snoc (l : List UInt8) : ∀ (n p : Nat), n = l.length - p → rn (BA l) p ≤ rn (BA (l ++ [94])) p := by
  intro n
  induction n using Nat.strongRecOn with
  | _ n ih =>
    intro p hn
    by_cases h : p < l.length
    · have h1 : p < (BA l).size := by rw [BA_size]; exact h
      have h2 : p < (BA (l ++ [94])).size := by rw [BA_size]; simp; omega
      have hw := oneW_pos (BA l) p h1
      have hw' : 1 ≤ (Utf8.decode (BA l) p).2 := hw
      rw [rn_step _ p h1, rn_step _ p h2, dec_snoc l p h]
      have := ih (l.length - (p + (Utf8.decode (BA l) p).2)) (by omega) (p + (Utf8.decode (BA l) p).2) rfl
      omega
    · rw [rn_end _ p (by rw [BA_size]; exact h)]
      exact Nat.zero_le _
theorem rn_pad (l : List UInt8) : ∀ k, rn (BA l) 0 ≤ rn (BA (l ++ List.replicate k 94)) 0
  | 0 => by simp
  | k + 1 => by
    rw [List.replicate_succ', ← List.append_assoc]
    exact Nat.le_trans (rn_pad l k) (rn_snoc _ _ 0 rfl)
theorem rn_trm (l : List UInt8) : rn (BA (trm 94 l)) 0 ≤ rn (BA l) 0 := by
  obtain ⟨k, hk⟩ := trm_pre 94 l
  have := rn_pad (trm 94 l) k
  rwa [← hk] at this
end Go.Proofs.YtohojghndnfgdaaGreatDoor
