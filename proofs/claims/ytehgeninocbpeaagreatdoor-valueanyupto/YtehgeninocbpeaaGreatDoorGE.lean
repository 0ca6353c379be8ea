import Derived.Test.YtehgeninocbpeaaGreatDoorGD
/-
  DERIVED. Texts of ASCII and stars.
-/
namespace Go.Proofs.YtehgeninocbpeaaGreatDoor.Gl
open Go Go.Proofs Go.RowKit

def ints (s : ByteArray) : List Int := s.data.toList.map (fun b => (b.toNat : Int))
theorem ints_len (s : ByteArray) : (ints s).length = s.size := by unfold ints; rw [List.length_map, Array.length_toList]; rfl

theorem els_ascii (s : ByteArray) (h : asciiB s = true) : ∀ fuel pos, s.size ≤ pos + fuel → els s fuel pos = (ints s).drop pos
  | 0, pos, hf => by
    rw [els, List.drop_eq_nil_of_le]
    rw [ints_len]; omega
  | f + 1, pos, hf => by
    rw [els]
    by_cases hp : pos < s.size
    · rw [if_pos hp]
      have hb : (s[pos]).toNat ≤ 127 := by
        unfold asciiB at h
        rw [List.all_eq_true] at h
        have := h s[pos] (by
          have h2 : pos < s.data.size := hp
          have : s[pos] = s.data[pos] := rfl
          rw [this]
          exact Array.getElem_mem_toList h2)
        simpa using this
      have hd := decode_ascii s pos hp (by omega)
      have he : elAt s pos = ((s[pos]).toNat : Int) := by
        unfold elAt
        rw [hd, if_neg (fun h => by have := h.1; simp only at this; omega)]
      rw [he, hd]
      show _ :: els s f (pos + 1) = _
      rw [els_ascii s h f (pos + 1) (by omega)]
      unfold ints
      rw [← List.map_drop, ← List.map_drop, drop_byte hp, List.map_cons]
    · rw [if_neg hp, List.drop_eq_nil_of_le]
      rw [ints_len]; omega
theorem elems_ascii (s : ByteArray) (h : asciiB s = true) : elems s = ints s := by
  unfold elems
  rw [els_ascii s h s.size 0 (by omega), List.drop_zero]

theorem ints_append (a b : ByteArray) : ints (a ++ b) = ints a ++ ints b := by
  unfold ints
  rw [ByteArray.data_append]
  simp
theorem ascii_append (a b : ByteArray) : asciiB (a ++ b) = (asciiB a && asciiB b) := by
  unfold asciiB
  rw [ByteArray.data_append]
  simp [List.all_append]

theorem ints_inj {a b : ByteArray} (h : ints a = ints b) : a = b := by
  have h2 : a.data.toList = b.data.toList := by
    unfold ints at h
    refine List.map_inj_right (f := fun b : UInt8 => (b.toNat : Int)) ?_ |>.1 h
    intro x y hxy
    exact UInt8.toNat_inj.1 (by have h3 : (x.toNat : Int) = (y.toNat : Int) := hxy; omega)
  exact ByteArray.ext (Array.ext' h2)
theorem toList_eq_data (s : ByteArray) : s.toList = s.data.toList := ByteArray.toList_eq s
theorem eq_iff_ints (a b : ByteArray) : (a.toList == b.toList) = decide (ints a = ints b) := by
  rw [toList_eq_data, toList_eq_data]
  by_cases h : a = b
  · subst h; simp
  · have h1 : ¬ ints a = ints b := fun h2 => h (ints_inj h2)
    have h2 : ¬ a.data = b.data := fun h2 => h (ByteArray.ext h2)
    simp [h1, h2]
theorem ints_extract (s : ByteArray) (a b : Nat) : ints (s.extract a b) = ((ints s).take b).drop a := by
  unfold ints
  rw [ByteArray.data_extract]
  simp [List.map_drop, List.map_take, List.drop_take]

/-- A pattern without wildcards. -/
def Plain (X : List Int) : Prop := ∀ c ∈ X, c ≠ 42 ∧ c ≠ 63
theorem tame_plain {x : ByteArray} (h : tameB x = true) : Plain (ints x) ∧ x.size ≤ 40 := by
  unfold tameB at h
  rw [Bool.and_eq_true, List.all_eq_true] at h
  refine ⟨?_, by simpa using h.2⟩
  intro c hc
  unfold ints at hc
  obtain ⟨b, hb, rfl⟩ := List.mem_map.1 hc
  have := h.1 b hb
  simp only [decide_eq_true_eq] at this
  omega

theorem gm_plain_app : ∀ (X Y S : List Int), Plain X → (gm (X ++ Y) S = true ↔ ∃ S', S = X ++ S' ∧ gm Y S' = true) := by
  intro X
  induction X with
  | nil => intro Y S _; exact ⟨fun h => ⟨S, rfl, h⟩, fun ⟨S', h1, h2⟩ => by subst h1; exact h2⟩
  | cons c X ih =>
    intro Y S hX
    have hc := hX c (by simp)
    have hX' : Plain X := fun d hd => hX d (by simp [hd])
    cases S with
    | nil =>
      rw [List.cons_append, gm_none hc.1]
      constructor
      · intro h; cases h
      · rintro ⟨S', h1, _⟩; simp at h1
    | cons x S =>
      rw [List.cons_append, gm_one hc.1, Bool.and_eq_true, ih Y S hX']
      constructor
      · rintro ⟨h1, S', rfl, h2⟩
        have : c = x := by simpa [hc.2] using h1
        subst this
        exact ⟨S', rfl, h2⟩
      · rintro ⟨S', h1, h2⟩
        simp only [List.cons_append, List.cons.injEq] at h1
        exact ⟨by simp [h1.1], S', h1.2, h2⟩

theorem gm_nil_iff (S : List Int) : gm [] S = true ↔ S = [] := by rw [gm_nil]; simp
theorem gm_all (S : List Int) : gm [42] S = true := by
  rw [gm_star, gmStar_true]
  exact ⟨S.length, Nat.le_refl _, by simp [gm_nil]⟩
theorem gm_all2 (S : List Int) : gm [42, 42] S = true := by
  rw [gm_star, gmStar_true]
  exact ⟨0, by omega, gm_all _⟩

theorem gm_itself {X : List Int} (hX : Plain X) (S : List Int) : gm X S = decide (X = S) := by
  have := gm_plain_app X [] S hX
  rw [List.append_nil] at this
  rw [Bool.eq_iff_iff, this, decide_eq_true_eq]
  constructor
  · rintro ⟨S', rfl, h⟩; rw [(gm_nil_iff S').1 h, List.append_nil]
  · rintro rfl; exact ⟨[], by simp, rfl⟩
theorem gm_begins {X : List Int} (hX : Plain X) (S : List Int) : gm (X ++ [42]) S = true ↔ ∃ S', S = X ++ S' := by
  rw [gm_plain_app X [42] S hX]
  exact ⟨fun ⟨S', h, _⟩ => ⟨S', h⟩, fun ⟨S', h⟩ => ⟨S', h, gm_all _⟩⟩
theorem gm_ends {X : List Int} (hX : Plain X) (S : List Int) : gm (42 :: X) S = true ↔ ∃ S', S = S' ++ X := by
  rw [gm_star, gmStar_true]
  constructor
  · rintro ⟨k, hk, h⟩
    rw [gm_itself hX, decide_eq_true_eq] at h
    exact ⟨S.take k, by rw [h, List.take_append_drop]⟩
  · rintro ⟨S', rfl⟩
    exact ⟨S'.length, by simp, by rw [gm_itself hX]; simp⟩
theorem gm_inside {X : List Int} (hX : Plain X) (S : List Int) : gm (42 :: (X ++ [42])) S = true ↔ ∃ S' S'', S = S' ++ X ++ S'' := by
  rw [gm_star, gmStar_true]
  constructor
  · rintro ⟨k, hk, h⟩
    obtain ⟨S'', h⟩ := (gm_begins hX _).1 h
    exact ⟨S.take k, S'', by rw [List.append_assoc, ← h, List.take_append_drop]⟩
  · rintro ⟨S', S'', rfl⟩
    exact ⟨S'.length, by simp, (gm_begins hX _).2 ⟨S'', by rw [List.append_assoc]; simp⟩⟩
theorem gm_marks : ∀ (m : Nat) (S : List Int), gm (List.replicate m 63) S = decide (S.length = m)
  | 0, S => by rw [List.replicate_zero, gm_nil]; cases S <;> simp
  | m + 1, [] => by rw [List.replicate_succ, gm_none (by decide)]; simp
  | m + 1, x :: S => by rw [List.replicate_succ, gm_one (by decide), gm_marks m S]; simp

/-- How the law says it. -/
theorem law_begins {x s : ByteArray} (hX : Plain (ints x)) : gm (ints x ++ [42]) (ints s) = (decide (x.size ≤ s.size) && ((s.extract 0 x.size).toList == x.toList)) := by
  rw [Bool.eq_iff_iff, gm_begins hX, Bool.and_eq_true, eq_iff_ints, ints_extract, decide_eq_true_eq, decide_eq_true_eq, List.drop_zero]
  constructor
  · rintro ⟨S', h⟩
    have hl := congrArg List.length h
    rw [List.length_append, ints_len, ints_len] at hl
    refine ⟨by omega, ?_⟩
    rw [h, ← ints_len x]; simp
  · rintro ⟨_, h⟩
    exact ⟨(ints s).drop x.size, by rw [← h, List.take_append_drop]⟩
theorem law_ends {x s : ByteArray} (hX : Plain (ints x)) : gm (42 :: ints x) (ints s) = (decide (x.size ≤ s.size) && ((s.extract (s.size - x.size) s.size).toList == x.toList)) := by
  rw [Bool.eq_iff_iff, gm_ends hX, Bool.and_eq_true, eq_iff_ints, ints_extract, decide_eq_true_eq, decide_eq_true_eq, List.take_of_length_le (by rw [ints_len]; exact Nat.le_refl _)]
  constructor
  · rintro ⟨S', h⟩
    have hl := congrArg List.length h
    rw [List.length_append, ints_len, ints_len] at hl
    refine ⟨by omega, ?_⟩
    rw [h, show s.size - x.size = S'.length by omega]; simp
  · rintro ⟨_, h⟩
    exact ⟨(ints s).take (s.size - x.size), by rw [← h, List.take_append_drop]⟩
theorem law_inside {x s : ByteArray} (hX : Plain (ints x)) : gm (42 :: (ints x ++ [42])) (ints s) = true ↔ ∃ k, k + x.size ≤ s.size ∧ ((s.extract k (k + x.size)).toList == x.toList) = true := by
  rw [gm_inside hX]
  constructor
  · rintro ⟨S', S'', h⟩
    have hl := congrArg List.length h
    rw [List.length_append, List.length_append, ints_len, ints_len] at hl
    refine ⟨S'.length, by omega, ?_⟩
    rw [eq_iff_ints, ints_extract, decide_eq_true_eq, h, show S'.length + x.size = (S' ++ ints x).length by rw [List.length_append, ints_len], List.take_left, List.drop_left]
  · rintro ⟨k, hk, h⟩
    rw [eq_iff_ints, ints_extract, decide_eq_true_eq] at h
    refine ⟨((ints s).take (k + x.size)).take k, (ints s).drop (k + x.size), ?_⟩
    rw [← h, List.take_append_drop, List.take_append_drop]

end Go.Proofs.YtehgeninocbpeaaGreatDoor.Gl
