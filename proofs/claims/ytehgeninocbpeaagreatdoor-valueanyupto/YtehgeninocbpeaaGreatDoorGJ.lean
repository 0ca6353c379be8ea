import Derived.Test.YtehgeninocbpeaaGreatDoorGH
/-
  DERIVED. The program's elements and the document's are the same but for a name; patterns piece by piece.
-/
namespace Go.Proofs.YtehgeninocbpeaaGreatDoor.Gl
open Go Go.Proofs Go.RowKit

def rels (s : ByteArray) : Nat → Nat → List Int
  | 0, _ => []
  | fuel + 1, pos => if pos < s.size then oneV s pos :: rels s fuel (pos + oneW s pos) else []
def relems (s : ByteArray) : List Int := rels s s.size 0

/-- The document's name of an element. -/
def phi (x : Int) : Int := if x < 0 then x - 1 else x
theorem phi_inj {x y : Int} (h : phi x = phi y) : x = y := by
  unfold phi at h
  split at h <;> split at h <;> omega
theorem phi_42 (x : Int) : phi x = 42 ↔ x = 42 := by
  unfold phi
  split <;> omega
theorem phi_63 (x : Int) : phi x = 63 ↔ x = 63 := by
  unfold phi
  split <;> omega

theorem hpB_fffd (s : ByteArray) (pos : Nat) (h : pos < s.size) : hpB (s.extract pos s.size) fffd = true ↔ (2 < s.size - pos ∧ (s.get! pos).toNat = 239 ∧ (s.get! (pos + 1)).toNat = 191 ∧ (s.get! (pos + 2)).toNat = 189) := by
  unfold hpB fffd
  have hz : (⟨#[239, 191, 189]⟩ : ByteArray).size = 3 := rfl
  have hsz : (s.extract pos s.size).size = s.size - pos := by rw [ByteArray.size_extract]; omega
  rw [hz, hsz, Bool.and_eq_true, decide_eq_true_eq]
  have hl : (⟨#[239, 191, 189]⟩ : ByteArray).toList = [239, 191, 189] := by rw [ByteArray.toList_eq]
  rw [hl, beq_iff_eq, ByteArray.toList_eq]
  constructor
  · rintro ⟨h1, h2⟩
    have hx : ∀ k, k < 3 → s.get! (pos + k) = ([239, 191, 189] : List UInt8).getD k 0 := fun k hk => by
      rw [← h2, ← get_get! s (pos + k) (by omega)]
      rw [ByteArray.data_extract, ByteArray.data_extract]
      have hk2 : pos + k < s.data.size := by have : s.data.size = s.size := rfl; omega
      show s.data[pos + k] = _
      rw [List.getD_eq_getElem?_getD]
      simp
      rw [List.getElem?_take_of_lt (by omega), List.getElem?_drop, Array.getElem?_toList, Array.getElem?_eq_getElem hk2]
      rfl
    have x0 := hx 0 (by omega)
    have x1 := hx 1 (by omega)
    have x2 := hx 2 (by omega)
    rw [Nat.add_zero] at x0
    exact ⟨by omega, by rw [x0]; rfl, by rw [x1]; rfl, by rw [x2]; rfl⟩
  · rintro ⟨h1, h2, h3, h4⟩
    refine ⟨by omega, ?_⟩
    have e0 : s[pos] = 239 := UInt8.toNat_inj.1 (by rw [get_get! s pos h, h2]; rfl)
    have e1 : s[pos + 1]'(by omega) = 191 := UInt8.toNat_inj.1 (by rw [get_get! s (pos + 1) (by omega), h3]; rfl)
    have e2 : s[pos + 2]'(by omega) = 189 := UInt8.toNat_inj.1 (by rw [get_get! s (pos + 2) (by omega), h4]; rfl)
    rw [ByteArray.data_extract, ByteArray.data_extract]
    have hd : s.data.size = s.size := rfl
    apply List.ext_getElem
    · simp; omega
    · intro k k1 k2
      have hk : k = 0 ∨ k = 1 ∨ k = 2 := by simp at k2; omega
      rcases hk with rfl | rfl | rfl
      · simp; exact e0
      · simp; exact e1
      · simp; exact e2

set_option maxRecDepth 100000 in
set_option maxHeartbeats 2000000 in
theorem dec_fffd (s : ByteArray) (pos : Nat) (h : (Utf8.decode s pos).1 = 65533) : (Utf8.decode s pos).2 ≠ 1 ↔ (2 < s.size - pos ∧ (s.get! pos).toNat = 239 ∧ (s.get! (pos + 1)).toNat = 191 ∧ (s.get! (pos + 2)).toNat = 189) := by
  rw [Lib.decode_at] at h ⊢
  have h0 := lt256 s pos
  have h1 := lt256 s (pos + 1)
  have h2 := lt256 s (pos + 2)
  have h3 := lt256 s (pos + 3)
  generalize (s.get! pos).toNat = b0 at *
  generalize (s.get! (pos + 1)).toNat = b1 at *
  generalize (s.get! (pos + 2)).toNat = b2 at *
  generalize (s.get! (pos + 3)).toNat = b3 at *
  generalize s.size - pos = n at *
  unfold Lib.decodeN at h ⊢
  repeat' split at h
  all_goals simp only at h
  all_goals repeat' split
  all_goals simp only
  all_goals first | (exfalso; omega) | (constructor <;> intro hh <;> omega)

theorem one_is (s : ByteArray) (pos : Nat) (h : pos < s.size) : oneV s pos = phi (elAt s pos) ∧ oneW s pos = (Utf8.decode s pos).2 := by
  refine ⟨?_, rfl⟩
  unfold oneV elAt
  by_cases hd : (Utf8.decode s pos).1 = 65533
  · have h1 := dec_fffd s pos hd
    rw [← hpB_fffd s pos h] at h1
    by_cases h2 : (Utf8.decode s pos).2 = 1
    · have h3 : hpB (s.extract pos s.size) fffd = false := by
        cases h4 : hpB (s.extract pos s.size) fffd with
        | false => rfl
        | true => exact absurd h2 (h1.2 h4)
      rw [if_pos ⟨hd, h2⟩, if_pos ⟨hd, h3⟩]
      have hb : 128 ≤ (s.get! pos).toNat := by
        rcases Nat.lt_or_ge (s.get! pos).toNat 128 with h5 | h5
        · have := decode_ascii s pos h (by rw [get_get! s pos h]; exact h5)
          rw [this, get_get! s pos h] at hd
          simp only at hd
          omega
        · exact h5
      unfold phi
      split <;> omega
    · have h3 := h1.1 h2
      rw [if_neg (fun h => h2 h.2), if_neg (fun h => by rw [h3] at h; exact absurd h.2 (by decide))]
      unfold phi
      split <;> omega
  · rw [if_neg (fun h => hd h.1), if_neg (fun h => hd h.1)]
    unfold phi
    split <;> omega

theorem rels_map (s : ByteArray) : ∀ fuel pos, rels s fuel pos = (els s fuel pos).map phi
  | 0, pos => rfl
  | f + 1, pos => by
    rw [rels, els]
    split
    · rename_i h
      rw [List.map_cons, (one_is s pos h).1, (one_is s pos h).2, rels_map s f]
    · rfl
theorem relems_map (s : ByteArray) : relems s = (elems s).map phi := rels_map s _ _

theorem gmStar_map {f g : List Int → Bool} (h : ∀ t, f (t.map phi) = g t) : ∀ t, gmStar f (t.map phi) = gmStar g t
  | [] => h []
  | x :: t => by
    rw [List.map_cons, gmStar, gmStar, ← List.map_cons, h, gmStar_map h t]
theorem gm_map : ∀ (P T : List Int), gm (P.map phi) (T.map phi) = gm P T
  | [], T => by rw [List.map_nil, gm_nil, gm_nil]; cases T <;> rfl
  | c :: P, T => by
    by_cases h : c = 42
    · subst h
      rw [List.map_cons, (phi_42 42).2 rfl, gm_star, gm_star]
      exact gmStar_map (gm_map P) T
    · have h' : phi c ≠ 42 := fun e => h ((phi_42 c).1 e)
      cases T with
      | nil => rw [List.map_cons, List.map_nil, gm_none h', gm_none h]
      | cons x T =>
        rw [List.map_cons, List.map_cons, gm_one h', gm_one h, gm_map P T]
        congr 2
        · exact decide_eq_decide.2 (phi_63 c)
        · exact decide_eq_decide.2 ⟨fun e => phi_inj e, fun e => by rw [e]⟩

/-- A pattern in two pieces. -/
theorem gm_app : ∀ (p q t : List Int), gm (p ++ q) t = true ↔ ∃ k, k ≤ t.length ∧ gm p (t.take k) = true ∧ gm q (t.drop k) = true
  | [], q, t => by
    constructor
    · intro h; exact ⟨0, by omega, by simp [gm_nil], by simpa using h⟩
    · rintro ⟨k, hk, h1, h2⟩
      rw [gm_nil] at h1
      have h3 : (t.take k).length = 0 := by simpa using h1
      rw [List.length_take] at h3
      obtain rfl : k = 0 := by
        rcases Nat.eq_zero_or_pos k with h | h
        · exact h
        · omega
      simpa using h2
  | c :: p, q, t => by
    by_cases h42 : c = 42
    · subst h42
      rw [List.cons_append, gm_star, gmStar_true]
      constructor
      · rintro ⟨k, hk, h⟩
        obtain ⟨j, hj, h1, h2⟩ := (gm_app p q _).1 h
        rw [List.length_drop] at hj
        refine ⟨k + j, by omega, ?_, ?_⟩
        · rw [gm_star, gmStar_true]
          refine ⟨k, by rw [List.length_take]; omega, ?_⟩
          rw [List.drop_take]
          rw [show k + j - k = j by omega]
          exact h1
        · rw [← List.drop_drop]; exact h2
      · rintro ⟨k, hk, h1, h2⟩
        rw [gm_star, gmStar_true] at h1
        obtain ⟨j, hj, h1⟩ := h1
        rw [List.length_take] at hj
        refine ⟨j, by omega, (gm_app p q _).2 ⟨k - j, by rw [List.length_drop]; omega, ?_, ?_⟩⟩
        · rw [List.drop_take] at h1; exact h1
        · rw [List.drop_drop, show j + (k - j) = k by omega]; exact h2
    · rw [List.cons_append]
      cases t with
      | nil =>
        rw [gm_none h42]
        constructor
        · intro h; cases h
        · rintro ⟨k, hk, h1, _⟩
          rw [List.take_nil, gm_none h42] at h1
          cases h1
      | cons x t =>
        rw [gm_one h42, Bool.and_eq_true, gm_app p q t]
        constructor
        · rintro ⟨h1, k, hk, h2, h3⟩
          exact ⟨k + 1, by simp; omega, by rw [List.take_succ_cons, gm_one h42, Bool.and_eq_true]; exact ⟨h1, h2⟩, by simpa using h3⟩
        · rintro ⟨k, hk, h2, h3⟩
          cases k with
          | zero => rw [List.take_zero, gm_none h42] at h2; cases h2
          | succ k =>
            rw [List.take_succ_cons, gm_one h42, Bool.and_eq_true] at h2
            exact ⟨h2.1, k, by simpa using hk, h2.2, by simpa using h3⟩

theorem gm_every (S : List Int) : gm [42] S = true := by rw [gm_star, gmStar_true]; exact ⟨S.length, Nat.le_refl _, by rw [List.drop_length, gm_nil]; rfl⟩
/-- The table's two rules. -/
theorem tab_star (P T : List Int) (i j : Nat) (hi : P[i]? = some 42) (hj : j ≤ T.length) :
    gm (P.take (i + 1)) (T.take j) = (gm (P.take i) (T.take j) || (decide (0 < j) && gm (P.take (i + 1)) (T.take (j - 1)))) := by
  have e : P.take (i + 1) = P.take i ++ [42] := by
    rw [List.take_add_one, hi]; rfl
  rw [e, Bool.eq_iff_iff, Bool.or_eq_true, Bool.and_eq_true, gm_app, gm_app]
  constructor
  · rintro ⟨k, hk, h1, _⟩
    rw [List.length_take] at hk
    rw [List.take_take] at h1
    rcases Nat.lt_or_ge k j with h | h
    · refine .inr ⟨by simp; omega, k, by rw [List.length_take]; omega, ?_, ?_⟩
      · rw [List.take_take, show min k (j - 1) = min k j by omega]; exact h1
      · exact gm_every _
    · refine .inl ?_
      rw [show min k j = j by omega] at h1
      exact h1
  · rintro (h | ⟨h0, k, hk, h1, _⟩)
    · refine ⟨j, by rw [List.length_take]; omega, by rw [List.take_take, Nat.min_self]; exact h, ?_⟩
      exact gm_every _
    · rw [List.length_take] at hk
      have h0' : 0 < j := by simpa using h0
      refine ⟨k, by rw [List.length_take]; omega, ?_, ?_⟩
      · rw [List.take_take] at h1 ⊢
        rw [show min k j = min k (j - 1) by omega]; exact h1
      · exact gm_every _

theorem tab_first (P T : List Int) (i : Nat) (c : Int) (hi : P[i]? = some c) (hc : c ≠ 42) : gm (P.take (i + 1)) (T.take 0) = false := by
  have e : P.take (i + 1) = P.take i ++ [c] := by
    rw [List.take_add_one, hi]; rfl
  cases h : gm (P.take (i + 1)) (T.take 0) with
  | false => rfl
  | true =>
    rw [e, gm_app] at h
    obtain ⟨k, hk, _, h2⟩ := h
    rw [List.take_zero, List.drop_nil, gm_none hc] at h2
    cases h2

theorem tab_one (P T : List Int) (i j : Nat) (c x : Int) (hi : P[i]? = some c) (hc : c ≠ 42) (hj : T[j]? = some x) :
    gm (P.take (i + 1)) (T.take (j + 1)) = (gm (P.take i) (T.take j) && (decide (c = 63) || decide (c = x))) := by
  have e : P.take (i + 1) = P.take i ++ [c] := by
    rw [List.take_add_one, hi]; rfl
  have e2 : T.take (j + 1) = T.take j ++ [x] := by
    rw [List.take_add_one, hj]; rfl
  have hjl : j < T.length := (List.getElem?_eq_some_iff.1 hj).1
  have hlen : (T.take j).length = j := by rw [List.length_take]; omega
  rw [e, e2, Bool.eq_iff_iff, gm_app, Bool.and_eq_true]
  constructor
  · rintro ⟨k, hk, h1, h2⟩
    rw [List.length_append, hlen, List.length_singleton] at hk
    have hkj : k = j := by
      cases hd : (T.take j ++ [x]).drop k with
      | nil => rw [hd, gm_none hc] at h2; cases h2
      | cons y u =>
        rw [hd, gm_one hc, Bool.and_eq_true, gm_nil] at h2
        have hu : u = [] := by simpa using h2.2
        subst hu
        have := congrArg List.length hd
        rw [List.length_drop, List.length_append, hlen, List.length_singleton, List.length_singleton] at this
        omega
    subst hkj
    have et : (T.take k ++ [x]).take k = T.take k := by conv => lhs; arg 1; rw [← hlen]
                                                        exact List.take_left
    have ed : (T.take k ++ [x]).drop k = [x] := by conv => lhs; arg 1; rw [← hlen]
                                                   exact List.drop_left
    rw [et] at h1
    rw [ed, gm_one hc, Bool.and_eq_true] at h2
    exact ⟨h1, h2.1⟩
  · rintro ⟨h1, h2⟩
    have et : (T.take j ++ [x]).take j = T.take j := by conv => lhs; arg 1; rw [← hlen]
                                                        exact List.take_left
    have ed : (T.take j ++ [x]).drop j = [x] := by conv => lhs; arg 1; rw [← hlen]
                                                   exact List.drop_left
    refine ⟨j, by rw [List.length_append, hlen]; omega, by rw [et]; exact h1, ?_⟩
    rw [ed, gm_one hc, Bool.and_eq_true]
    exact ⟨h2, by rw [gm_nil]; rfl⟩

end Go.Proofs.YtehgeninocbpeaaGreatDoor.Gl
