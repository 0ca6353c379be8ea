import Derived.Test.YtehgeninocbpeaaGreatDoorWa
import Derived.Lib.DecodeN
import Derived.Lib.RuneBytes
namespace Go.Proofs.YtehgeninocbpeaaGreatDoor.Gl
open Go Go.Proofs Go.RowKit
def oneV (s : ByteArray) (i : Nat) : Int := if (Utf8.decode s i).1 = 65533 ∧ (Utf8.decode s i).2 = 1 then -1 - ((s.get! i).toNat : Int) else ((Utf8.decode s i).1 : Int)
def oneW (s : ByteArray) (i : Nat) : Nat := (Utf8.decode s i).2
def Ct (s : ByteArray) (p : Nat) : Prop := p < s.size ∧ 128 ≤ (s.get! p).toNat ∧ (s.get! p).toNat ≤ 191
def pv (s : ByteArray) (i v0 : Nat) : Nat → Nat
  | 0 => v0
  | k + 1 => pv s i v0 k * 64 + ((s.get! (i + (k + 1))).toNat - 128)
theorem lt256 (s : ByteArray) (p : Nat) : (s.get! p).toNat < 256 := UInt8.toNat_lt _
theorem dec_bad (s : ByteArray) (i : Nat) (h : Utf8.decode s i = (65533, 1)) : oneV s i = -1 - ((s.get! i).toNat : Int) ∧ oneW s i = 1 := by
  unfold oneV oneW
  rw [h]
  exact ⟨if_pos ⟨rfl, rfl⟩, rfl⟩
theorem dec_good (s : ByteArray) (i v n : Nat) (h : Utf8.decode s i = (v, n)) (hn : n ≠ 1) : oneV s i = (v : Int) ∧ oneW s i = n := by
  unfold oneV oneW
  rw [h]
  exact ⟨if_neg (fun h => hn h.2), rfl⟩
theorem dec_low (s : ByteArray) (i : Nat) (hi : i < s.size) (h : (s.get! i).toNat < 128) : oneV s i = ((s.get! i).toNat : Int) ∧ oneW s i = 1 := by
  have hd := decode_ascii s i hi (by rw [get_get! s i hi]; exact h)
  rw [get_get! s i hi] at hd
  unfold oneV oneW
  rw [hd]
  exact ⟨if_neg (fun h => by have := h.1; simp only at this; omega), rfl⟩
set_option maxRecDepth 100000 in
theorem dec_none (s : ByteArray) (i : Nat) (h : (128 ≤ (s.get! i).toNat ∧ (s.get! i).toNat < 194) ∨ 244 < (s.get! i).toNat) : Utf8.decode s i = (65533, 1) := by
  rw [Lib.decode_at]
  have h0 := lt256 s i
  have h1 := lt256 s (i + 1)
  have h2 := lt256 s (i + 2)
  have h3 := lt256 s (i + 3)
  generalize (s.get! i).toNat = b0 at *
  generalize (s.get! (i + 1)).toNat = b1 at *
  generalize (s.get! (i + 2)).toNat = b2 at *
  generalize (s.get! (i + 3)).toNat = b3 at *
  generalize s.size - i = n
  unfold Lib.decodeN
  repeat' split
  all_goals first | rfl | (exfalso; omega)
def Lead (c n v0 least : Nat) : Prop := (194 ≤ c ∧ c ≤ 223 ∧ n = 2 ∧ v0 = c - 192 ∧ least = 128) ∨ (224 ≤ c ∧ c ≤ 239 ∧ n = 3 ∧ v0 = c - 224 ∧ least = 2048) ∨ (240 ≤ c ∧ c ≤ 244 ∧ n = 4 ∧ v0 = c - 240 ∧ least = 65536)
set_option maxRecDepth 100000 in
theorem dec_cut (s : ByteArray) (i n v0 least k : Nat) (hl : Lead (s.get! i).toNat n v0 least) (hk : 1 ≤ k ∧ k < n) (h : ¬ Ct s (i + k)) : Utf8.decode s i = (65533, 1) := by
  rw [Lib.decode_at]
  have h0 := lt256 s i
  have h1 := lt256 s (i + 1)
  have h2 := lt256 s (i + 2)
  have h3 := lt256 s (i + 3)
  have hc : ¬ (k < s.size - i ∧ 128 ≤ (s.get! (i + k)).toNat ∧ (s.get! (i + k)).toNat ≤ 191) := fun h' => h ⟨by omega, h'.2⟩
  clear h
  have hk3 : k = 1 ∨ k = 2 ∨ k = 3 := by rcases hl with h | h | h <;> omega
  unfold Lead at hl
  rcases hk3 with rfl | rfl | rfl
  all_goals
    generalize (s.get! i).toNat = b0 at *
    generalize (s.get! (i + 1)).toNat = b1 at *
    generalize (s.get! (i + 2)).toNat = b2 at *
    generalize (s.get! (i + 3)).toNat = b3 at *
    generalize s.size - i = m at *
    unfold Lib.decodeN
    repeat' split
    all_goals first | rfl | (exfalso; omega)
def Off (v least : Nat) : Prop := v < least ∨ 1114111 < v ∨ (55296 ≤ v ∧ v ≤ 57343)
set_option maxRecDepth 100000 in
set_option maxHeartbeats 4000000 in
theorem dec_all (s : ByteArray) (i n v0 least : Nat) (hl : Lead (s.get! i).toNat n v0 least) (h : ∀ k, 1 ≤ k → k < n → Ct s (i + k)) :
    (Off (pv s i v0 (n - 1)) least → Utf8.decode s i = (65533, 1)) ∧ (¬ Off (pv s i v0 (n - 1)) least → Utf8.decode s i = (pv s i v0 (n - 1), n)) := by
  rw [Lib.decode_at]
  have h0 := lt256 s i
  have h1 := lt256 s (i + 1)
  have h2 := lt256 s (i + 2)
  have h3 := lt256 s (i + 3)
  unfold Off
  rcases hl with ⟨a, b, rfl, rfl, rfl⟩ | ⟨a, b, rfl, rfl, rfl⟩ | ⟨a, b, rfl, rfl, rfl⟩
  · have c1 := h 1 (by omega) (by omega)
    obtain ⟨d1, e1, f1⟩ := c1
    have e : pv s i ((s.get! i).toNat - 192) (2 - 1) = ((s.get! i).toNat - 192) * 64 + ((s.get! (i + 1)).toNat - 128) := rfl
    rw [e]
    have hm : 1 < s.size - i := by omega
    generalize (s.get! i).toNat = b0 at *
    generalize (s.get! (i + 1)).toNat = b1 at *
    generalize (s.get! (i + 2)).toNat = b2 at *
    generalize (s.get! (i + 3)).toNat = b3 at *
    generalize s.size - i = m at *
    clear h e d1
    unfold Lib.decodeN
    constructor <;> intro hh <;> repeat' split
    all_goals first | rfl | (exfalso; omega) | (apply Prod.ext <;> simp only <;> omega)
  · have c1 := h 1 (by omega) (by omega)
    have c2 := h 2 (by omega) (by omega)
    obtain ⟨d1, e1, f1⟩ := c1
    obtain ⟨d2, e2, f2⟩ := c2
    have e : pv s i ((s.get! i).toNat - 224) (3 - 1) = (((s.get! i).toNat - 224) * 64 + ((s.get! (i + 1)).toNat - 128)) * 64 + ((s.get! (i + 2)).toNat - 128) := rfl
    rw [e]
    have hm : 2 < s.size - i := by omega
    generalize (s.get! i).toNat = b0 at *
    generalize (s.get! (i + 1)).toNat = b1 at *
    generalize (s.get! (i + 2)).toNat = b2 at *
    generalize (s.get! (i + 3)).toNat = b3 at *
    generalize s.size - i = m at *
    clear h e d1 d2
    unfold Lib.decodeN
    constructor <;> intro hh <;> repeat' split
    all_goals first | rfl | (exfalso; omega) | (apply Prod.ext <;> simp only <;> omega)
  · have c1 := h 1 (by omega) (by omega)
    have c2 := h 2 (by omega) (by omega)
    have c3 := h 3 (by omega) (by omega)
    obtain ⟨d1, e1, f1⟩ := c1
    obtain ⟨d2, e2, f2⟩ := c2
    obtain ⟨d3, e3, f3⟩ := c3
    have e : pv s i ((s.get! i).toNat - 240) (4 - 1) = ((((s.get! i).toNat - 240) * 64 + ((s.get! (i + 1)).toNat - 128)) * 64 + ((s.get! (i + 2)).toNat - 128)) * 64 + ((s.get! (i + 3)).toNat - 128) := rfl
    rw [e]
    have hm : 3 < s.size - i := by omega
    generalize (s.get! i).toNat = b0 at *
    generalize (s.get! (i + 1)).toNat = b1 at *
    generalize (s.get! (i + 2)).toNat = b2 at *
    generalize (s.get! (i + 3)).toNat = b3 at *
    generalize s.size - i = m at *
    clear h e d1 d2 d3
    unfold Lib.decodeN
    constructor <;> intro hh <;> repeat' split
    all_goals first | rfl | (exfalso; omega) | (apply Prod.ext <;> simp only <;> omega)
theorem pv_le (s : ByteArray) (i v0 : Nat) (h0 : v0 ≤ 31) : ∀ k, k ≤ 3 → (∀ j, 1 ≤ j → j ≤ k → Ct s (i + j)) → pv s i v0 k ≤ 8388607 ∧ (k = 0 → pv s i v0 k ≤ 31) ∧ (k = 1 → pv s i v0 k ≤ 2047) ∧ (k = 2 → pv s i v0 k ≤ 131071)
  | 0, _, _ => ⟨Nat.le_trans h0 (by omega), fun _ => h0, fun h => by omega, fun h => by omega⟩
  | k + 1, hk, hc => by
    have ih := pv_le s i v0 h0 k (by omega) (fun j h1 h2 => hc j h1 (by omega))
    have hb := hc (k + 1) (by omega) (by omega)
    unfold Ct at hb
    have e : pv s i v0 (k + 1) = pv s i v0 k * 64 + ((s.get! (i + (k + 1))).toNat - 128) := rfl
    generalize pv s i v0 (k + 1) = X at *
    generalize pv s i v0 k = Y at *
    generalize (s.get! (i + (k + 1))).toNat = b at *
    refine ⟨?_, ?_, ?_, ?_⟩ <;> omega
end Go.Proofs.YtehgeninocbpeaaGreatDoor.Gl

namespace Go.Proofs.YtehgeninocbpeaaGreatDoor.Gl
open Go Go.Proofs Go.RowKit
def rels (s : ByteArray) : Nat → Nat → List Int
  | 0, _ => []
  | fuel + 1, pos => if pos < s.size then oneV s pos :: rels s fuel (pos + oneW s pos) else []
def relems (s : ByteArray) : List Int := rels s s.size 0
def phi (x : Int) : Int := if x < 0 then x - 1 else x
theorem phi_inj {x y : Int} (h : phi x = phi y) : x = y := by
  unfold phi at h
  split at h <;> split at h <;> omega
theorem phi_42 (x : Int) : phi x = 42 ↔ x = 42 := by
  unfold phi
  split <;> omega
theorem phi_63 (x : Int) : phi x = 63 ↔ x = 63 := by
  unfold phi
  split <;> omega
theorem hpB_fffd (s : ByteArray) (pos : Nat) (h : pos < s.size) : hpB (s.extract pos s.size) fffd = true ↔ (2 < s.size - pos ∧ (s.get! pos).toNat = 239 ∧ (s.get! (pos + 1)).toNat = 191 ∧ (s.get! (pos + 2)).toNat = 189) := by
  unfold hpB fffd
  have hz : (⟨#[239, 191, 189]⟩ : ByteArray).size = 3 := rfl
  have hsz : (s.extract pos s.size).size = s.size - pos := by rw [ByteArray.size_extract]; omega
  rw [hz, hsz, Bool.and_eq_true, decide_eq_true_eq]
  have hl : (⟨#[239, 191, 189]⟩ : ByteArray).toList = [239, 191, 189] := by rw [ByteArray.toList_eq]
  rw [hl, beq_iff_eq, ByteArray.toList_eq]
  constructor
  · rintro ⟨h1, h2⟩
    have hx : ∀ k, k < 3 → s.get! (pos + k) = ([239, 191, 189] : List UInt8).getD k 0 := fun k hk => by
      rw [← h2, ← get_get! s (pos + k) (by omega)]
      rw [ByteArray.data_extract, ByteArray.data_extract]
      have hk2 : pos + k < s.data.size := by have : s.data.size = s.size := rfl; omega
      show s.data[pos + k] = _
      rw [List.getD_eq_getElem?_getD]
      simp
      rw [List.getElem?_take_of_lt (by omega), List.getElem?_drop, Array.getElem?_toList, Array.getElem?_eq_getElem hk2]
      rfl
    have x0 := hx 0 (by omega)
    have x1 := hx 1 (by omega)
    have x2 := hx 2 (by omega)
    rw [Nat.add_zero] at x0
    exact ⟨by omega, by rw [x0]; rfl, by rw [x1]; rfl, by rw [x2]; rfl⟩
  · rintro ⟨h1, h2, h3, h4⟩
    refine ⟨by omega, ?_⟩
    have e0 : s[pos] = 239 := UInt8.toNat_inj.1 (by rw [get_get! s pos h, h2]; rfl)
    have e1 : s[pos + 1]'(by omega) = 191 := UInt8.toNat_inj.1 (by rw [get_get! s (pos + 1) (by omega), h3]; rfl)
    have e2 : s[pos + 2]'(by omega) = 189 := UInt8.toNat_inj.1 (by rw [get_get! s (pos + 2) (by omega), h4]; rfl)
    rw [ByteArray.data_extract, ByteArray.data_extract]
    have hd : s.data.size = s.size := rfl
    apply List.ext_getElem
    · simp; omega
    · intro k k1 k2
      have hk : k = 0 ∨ k = 1 ∨ k = 2 := by simp at k2; omega
      rcases hk with rfl | rfl | rfl
      · simp; exact e0
      · simp; exact e1
      · simp; exact e2
set_option maxRecDepth 100000 in
set_option maxHeartbeats 2000000 in
theorem dec_fffd (s : ByteArray) (pos : Nat) (h : (Utf8.decode s pos).1 = 65533) : (Utf8.decode s pos).2 ≠ 1 ↔ (2 < s.size - pos ∧ (s.get! pos).toNat = 239 ∧ (s.get! (pos + 1)).toNat = 191 ∧ (s.get! (pos + 2)).toNat = 189) := by
  rw [Lib.decode_at] at h ⊢
  have h0 := lt256 s pos
  have h1 := lt256 s (pos + 1)
  have h2 := lt256 s (pos + 2)
  have h3 := lt256 s (pos + 3)
  generalize (s.get! pos).toNat = b0 at *
  generalize (s.get! (pos + 1)).toNat = b1 at *
  generalize (s.get! (pos + 2)).toNat = b2 at *
  generalize (s.get! (pos + 3)).toNat = b3 at *
  generalize s.size - pos = n at *
  unfold Lib.decodeN at h ⊢
  repeat' split at h
  all_goals simp only at h
  all_goals repeat' split
  all_goals simp only
  all_goals first | (exfalso; omega) | (constructor <;> intro hh <;> omega)
theorem one_is (s : ByteArray) (pos : Nat) (h : pos < s.size) : oneV s pos = phi (elAt s pos) ∧ oneW s pos = (Utf8.decode s pos).2 := by
  refine ⟨?_, rfl⟩
  unfold oneV elAt
  by_cases hd : (Utf8.decode s pos).1 = 65533
  · have h1 := dec_fffd s pos hd
    rw [← hpB_fffd s pos h] at h1
    by_cases h2 : (Utf8.decode s pos).2 = 1
    · have h3 : hpB (s.extract pos s.size) fffd = false := by
        cases h4 : hpB (s.extract pos s.size) fffd with
        | false => rfl
        | true => exact absurd h2 (h1.2 h4)
      rw [if_pos ⟨hd, h2⟩, if_pos ⟨hd, h3⟩]
      have hb : 128 ≤ (s.get! pos).toNat := by
        rcases Nat.lt_or_ge (s.get! pos).toNat 128 with h5 | h5
        · have := decode_ascii s pos h (by rw [get_get! s pos h]; exact h5)
          rw [this, get_get! s pos h] at hd
          simp only at hd
          omega
        · exact h5
      unfold phi
      split <;> omega
    · have h3 := h1.1 h2
      rw [if_neg (fun h => h2 h.2), if_neg (fun h => by rw [h3] at h; exact absurd h.2 (by decide))]
      unfold phi
      split <;> omega
  · rw [if_neg (fun h => hd h.1), if_neg (fun h => hd h.1)]
    unfold phi
    split <;> omega
theorem rels_map (s : ByteArray) : ∀ fuel pos, rels s fuel pos = (els s fuel pos).map phi
  | 0, pos => rfl
  | f + 1, pos => by
    rw [rels, els]
    split
    · rename_i h
      rw [List.map_cons, (one_is s pos h).1, (one_is s pos h).2, rels_map s f]
    · rfl
theorem relems_map (s : ByteArray) : relems s = (elems s).map phi := rels_map s _ _
theorem gmStar_map {f g : List Int → Bool} (h : ∀ t, f (t.map phi) = g t) : ∀ t, gmStar f (t.map phi) = gmStar g t
  | [] => h []
  | x :: t => by
    rw [List.map_cons, gmStar, gmStar, ← List.map_cons, h, gmStar_map h t]
theorem gm_map : ∀ (P T : List Int), gm (P.map phi) (T.map phi) = gm P T
  | [], T => by rw [List.map_nil, gm_nil, gm_nil]; cases T <;> rfl
  | c :: P, T => by
    by_cases h : c = 42
    · subst h
      rw [List.map_cons, (phi_42 42).2 rfl, gm_star, gm_star]
      exact gmStar_map (gm_map P) T
    · have h' : phi c ≠ 42 := fun e => h ((phi_42 c).1 e)
      cases T with
      | nil => rw [List.map_cons, List.map_nil, gm_none h', gm_none h]
      | cons x T =>
        rw [List.map_cons, List.map_cons, gm_one h', gm_one h, gm_map P T]
        congr 2
        · exact decide_eq_decide.2 (phi_63 c)
        · exact decide_eq_decide.2 ⟨fun e => phi_inj e, fun e => by rw [e]⟩
theorem gm_app : ∀ (p q t : List Int), gm (p ++ q) t = true ↔ ∃ k, k ≤ t.length ∧ gm p (t.take k) = true ∧ gm q (t.drop k) = true
  | [], q, t => by
    constructor
    · intro h; exact ⟨0, by omega, by simp [gm_nil], by simpa using h⟩
    · rintro ⟨k, hk, h1, h2⟩
      rw [gm_nil] at h1
      have h3 : (t.take k).length = 0 := by simpa using h1
      rw [List.length_take] at h3
      obtain rfl : k = 0 := by
        rcases Nat.eq_zero_or_pos k with h | h
        · exact h
        · omega
      simpa using h2
  | c :: p, q, t => by
    by_cases h42 : c = 42
    · subst h42
      rw [List.cons_append, gm_star, gmStar_true]
      constructor
      · rintro ⟨k, hk, h⟩
        obtain ⟨j, hj, h1, h2⟩ := (gm_app p q _).1 h
        rw [List.length_drop] at hj
        refine ⟨k + j, by omega, ?_, ?_⟩
        · rw [gm_star, gmStar_true]
          refine ⟨k, by rw [List.length_take]; omega, ?_⟩
          rw [List.drop_take]
          rw [show k + j - k = j by omega]
          exact h1
        · rw [← List.drop_drop]; exact h2
      · rintro ⟨k, hk, h1, h2⟩
        rw [gm_star, gmStar_true] at h1
        obtain ⟨j, hj, h1⟩ := h1
        rw [List.length_take] at hj
        refine ⟨j, by omega, (gm_app p q _).2 ⟨k - j, by rw [List.length_drop]; omega, ?_, ?_⟩⟩
        · rw [List.drop_take] at h1; exact h1
        · rw [List.drop_drop, show j + (k - j) = k by omega]; exact h2
    · rw [List.cons_append]
      cases t with
      | nil =>
        rw [gm_none h42]
        constructor
        · intro h; cases h
        · rintro ⟨k, hk, h1, _⟩
          rw [List.take_nil, gm_none h42] at h1
          cases h1
      | cons x t =>
        rw [gm_one h42, Bool.and_eq_true, gm_app p q t]
        constructor
        · rintro ⟨h1, k, hk, h2, h3⟩
          exact ⟨k + 1, by simp; omega, by rw [List.take_succ_cons, gm_one h42, Bool.and_eq_true]; exact ⟨h1, h2⟩, by simpa using h3⟩
        · rintro ⟨k, hk, h2, h3⟩
          cases k with
          | zero => rw [List.take_zero, gm_none h42] at h2; cases h2
          | succ k =>
            rw [List.take_succ_cons, gm_one h42, Bool.and_eq_true] at h2
            exact ⟨h2.1, k, by simpa using hk, h2.2, by simpa using h3⟩
theorem gm_every (S : List Int) : gm [42] S = true := by rw [gm_star, gmStar_true]; exact ⟨S.length, Nat.le_refl _, by rw [List.drop_length, gm_nil]; rfl⟩
theorem tab_star (P T : List Int) (i j : Nat) (hi : P[i]? = some 42) (hj : j ≤ T.length) :
    gm (P.take (i + 1)) (T.take j) = (gm (P.take i) (T.take j) || (decide (0 < j) && gm (P.take (i + 1)) (T.take (j - 1)))) := by
  have e : P.take (i + 1) = P.take i ++ [42] := by
    rw [List.take_add_one, hi]; rfl
  rw [e, Bool.eq_iff_iff, Bool.or_eq_true, Bool.and_eq_true, gm_app, gm_app]
  constructor
  · rintro ⟨k, hk, h1, _⟩
    rw [List.length_take] at hk
    rw [List.take_take] at h1
    rcases Nat.lt_or_ge k j with h | h
    · refine .inr ⟨by simp; omega, k, by rw [List.length_take]; omega, ?_, ?_⟩
      · rw [List.take_take, show min k (j - 1) = min k j by omega]; exact h1
      · exact gm_every _
    · refine .inl ?_
      rw [show min k j = j by omega] at h1
      exact h1
  · rintro (h | ⟨h0, k, hk, h1, _⟩)
    · refine ⟨j, by rw [List.length_take]; omega, by rw [List.take_take, Nat.min_self]; exact h, ?_⟩
      exact gm_every _
    · rw [List.length_take] at hk
      have h0' : 0 < j := by simpa using h0
      refine ⟨k, by rw [List.length_take]; omega, ?_, ?_⟩
      · rw [List.take_take] at h1 ⊢
        rw [show min k j = min k (j - 1) by omega]; exact h1
      · exact gm_every _
theorem tab_first (P T : List Int) (i : Nat) (c : Int) (hi : P[i]? = some c) (hc : c ≠ 42) : gm (P.take (i + 1)) (T.take 0) = false := by
  have e : P.take (i + 1) = P.take i ++ [c] := by
    rw [List.take_add_one, hi]; rfl
  cases h : gm (P.take (i + 1)) (T.take 0) with
  | false => rfl
  | true =>
    rw [e, gm_app] at h
    obtain ⟨k, hk, _, h2⟩ := h
    rw [List.take_zero, List.drop_nil, gm_none hc] at h2
    cases h2
theorem tab_one (P T : List Int) (i j : Nat) (c x : Int) (hi : P[i]? = some c) (hc : c ≠ 42) (hj : T[j]? = some x) :
    gm (P.take (i + 1)) (T.take (j + 1)) = (gm (P.take i) (T.take j) && (decide (c = 63) || decide (c = x))) := by
  have e : P.take (i + 1) = P.take i ++ [c] := by
    rw [List.take_add_one, hi]; rfl
  have e2 : T.take (j + 1) = T.take j ++ [x] := by
    rw [List.take_add_one, hj]; rfl
  have hjl : j < T.length := (List.getElem?_eq_some_iff.1 hj).1
  have hlen : (T.take j).length = j := by rw [List.length_take]; omega
  rw [e, e2, Bool.eq_iff_iff, gm_app, Bool.and_eq_true]
  constructor
  · rintro ⟨k, hk, h1, h2⟩
    rw [List.length_append, hlen, List.length_singleton] at hk
    have hkj : k = j := by
      cases hd : (T.take j ++ [x]).drop k with
      | nil => rw [hd, gm_none hc] at h2; cases h2
      | cons y u =>
        rw [hd, gm_one hc, Bool.and_eq_true, gm_nil] at h2
        have hu : u = [] := by simpa using h2.2
        subst hu
        have := congrArg List.length hd
        rw [List.length_drop, List.length_append, hlen, List.length_singleton, List.length_singleton] at this
        omega
    subst hkj
    have et : (T.take k ++ [x]).take k = T.take k := by conv => lhs; arg 1; rw [← hlen]
                                                        exact List.take_left
    have ed : (T.take k ++ [x]).drop k = [x] := by conv => lhs; arg 1; rw [← hlen]
                                                   exact List.drop_left
    rw [et] at h1
    rw [ed, gm_one hc, Bool.and_eq_true] at h2
    exact ⟨h1, h2.1⟩
  · rintro ⟨h1, h2⟩
    have et : (T.take j ++ [x]).take j = T.take j := by conv => lhs; arg 1; rw [← hlen]
                                                        exact List.take_left
    have ed : (T.take j ++ [x]).drop j = [x] := by conv => lhs; arg 1; rw [← hlen]
                                                   exact List.drop_left
    refine ⟨j, by rw [List.length_append, hlen]; omega, by rw [et]; exact h1, ?_⟩
    rw [ed, gm_one hc, Bool.and_eq_true]
    exact ⟨h2, by rw [gm_nil]; rfl⟩
end Go.Proofs.YtehgeninocbpeaaGreatDoor.Gl

namespace Go.Proofs.YtehgeninocbpeaaGreatDoor.Gl
open Go Go.Proofs Go.RowKit
def Turned (s : ByteArray) (i : Nat) : Prop := (65 ≤ (s.get! i).toNat ∧ (s.get! i).toNat ≤ 90) ∨ (0 < i ∧ (s.get! (i - 1)).toNat = 195 ∧ 128 ≤ (s.get! i).toNat ∧ (s.get! i).toNat ≤ 158 ∧ (s.get! i).toNat ≠ 151 ∧ oneW s (i - 1) = 2)
instance (s : ByteArray) (i : Nat) : Decidable (Turned s i) := by unfold Turned; infer_instance
def rf (s : ByteArray) (i : Nat) : UInt8 := if Turned s i then s.get! i + 32 else s.get! i
def fol (s : ByteArray) (n : Nat) : List UInt8 := (List.range n).map (rf s)
theorem fol_succ (s : ByteArray) (n : Nat) : fol s (n + 1) = fol s n ++ [rf s n] := by unfold fol; rw [List.range_succ, List.map_append]; rfl
theorem turned_nat (s : ByteArray) (i : Nat) (h : Turned s i) : (rf s i).toNat = (s.get! i).toNat + 32 := by
  unfold rf
  rw [if_pos h, UInt8.toNat_add]
  unfold Turned at h
  have e : (32 : UInt8).toNat = 32 := rfl
  rw [e]
  omega
theorem shape (s : ByteArray) (pos : Nat) (h : pos < s.size) :
    ((Utf8.decode s pos).2 = 1 ∧ (((Utf8.decode s pos).1 = (s.get! pos).toNat ∧ (s.get! pos).toNat < 128) ∨ ((Utf8.decode s pos).1 = 65533 ∧ 128 ≤ (s.get! pos).toNat))) ∨
    ((Utf8.decode s pos).2 = 2 ∧ pos + 2 ≤ s.size ∧ 194 ≤ (s.get! pos).toNat ∧ (s.get! pos).toNat ≤ 223 ∧ 128 ≤ (s.get! (pos + 1)).toNat ∧ (s.get! (pos + 1)).toNat ≤ 191 ∧ (Utf8.decode s pos).1 = ((s.get! pos).toNat - 192) * 64 + ((s.get! (pos + 1)).toNat - 128)) ∨
    ((Utf8.decode s pos).2 = 3 ∧ pos + 3 ≤ s.size ∧ 224 ≤ (s.get! pos).toNat ∧ 128 ≤ (s.get! (pos + 1)).toNat ∧ (s.get! (pos + 1)).toNat ≤ 191 ∧ 128 ≤ (s.get! (pos + 2)).toNat ∧ (s.get! (pos + 2)).toNat ≤ 191 ∧ 2048 ≤ (Utf8.decode s pos).1) ∨
    ((Utf8.decode s pos).2 = 4 ∧ pos + 4 ≤ s.size ∧ 224 ≤ (s.get! pos).toNat ∧ 128 ≤ (s.get! (pos + 1)).toNat ∧ (s.get! (pos + 1)).toNat ≤ 191 ∧ 128 ≤ (s.get! (pos + 2)).toNat ∧ (s.get! (pos + 2)).toNat ≤ 191 ∧ 128 ≤ (s.get! (pos + 3)).toNat ∧ (s.get! (pos + 3)).toNat ≤ 191 ∧ 65536 ≤ (Utf8.decode s pos).1) := by
  rw [Lib.decode_at]
  have h0 := lt256 s pos
  have h1 := lt256 s (pos + 1)
  have h2 := lt256 s (pos + 2)
  have h3 := lt256 s (pos + 3)
  generalize (s.get! pos).toNat = b0 at *
  generalize (s.get! (pos + 1)).toNat = b1 at *
  generalize (s.get! (pos + 2)).toNat = b2 at *
  generalize (s.get! (pos + 3)).toNat = b3 at *
  generalize hn : s.size - pos = n at *
  unfold Lib.decodeN
  repeat' split
  all_goals first
    | exact .inl ⟨rfl, .inl ⟨rfl, by omega⟩⟩
    | exact .inl ⟨rfl, .inr ⟨rfl, by omega⟩⟩
    | exact .inr (.inl ⟨rfl, by omega, by omega, by omega, by omega, by omega, by simp only; omega⟩)
    | exact .inr (.inr (.inl ⟨rfl, by omega, by omega, by omega, by omega, by omega, by omega, by simp only; omega⟩))
    | exact .inr (.inr (.inr ⟨rfl, by omega, by omega, by omega, by omega, by omega, by omega, by omega, by omega, by simp only; omega⟩))
def Bd (s : ByteArray) (p : Nat) : Prop := 0 < p → (s.get! (p - 1)).toNat = 195 → oneW s (p - 1) ≠ 2
theorem bd_next (s : ByteArray) (pos : Nat) (h : pos < s.size) : Bd s (pos + oneW s pos) := by
  intro _ h2
  have hs := shape s pos h
  have e : oneW s pos = (Utf8.decode s pos).2 := rfl
  rcases hs with ⟨hd, _⟩ | ⟨hd, hs⟩ | ⟨hd, hs⟩ | ⟨hd, hs⟩
  · rw [e, hd, show pos + 1 - 1 = pos by omega, e, hd]; omega
  · rw [e, hd, show pos + 2 - 1 = pos + 1 by omega] at h2; omega
  · rw [e, hd, show pos + 3 - 1 = pos + 2 by omega] at h2; omega
  · rw [e, hd, show pos + 4 - 1 = pos + 3 by omega] at h2; omega
theorem next_le (s : ByteArray) (pos : Nat) (h : pos < s.size) : pos + oneW s pos ≤ s.size := by
  have e : oneW s pos = (Utf8.decode s pos).2 := rfl
  rcases shape s pos h with ⟨hd, _⟩ | ⟨hd, hs⟩ | ⟨hd, hs⟩ | ⟨hd, hs⟩ <;> omega
def bytesFrom (s : ByteArray) (a b : Nat) : List UInt8 := (s.extract a b).data.toList
theorem from_add (s : ByteArray) {a b c : Nat} (h1 : a ≤ b) (h2 : b ≤ c) : bytesFrom s a c = bytesFrom s a b ++ bytesFrom s b c := by
  unfold bytesFrom
  rw [ByteArray.data_extract, ByteArray.data_extract, ByteArray.data_extract]
  simp only [Array.toList_extract, List.extract_eq_take_drop]
  rw [show c - a = (b - a) + (c - b) by omega, List.take_add, List.drop_drop, show a + (b - a) = b by omega]
theorem from_self (s : ByteArray) (a : Nat) : bytesFrom s a a = [] := by
  unfold bytesFrom
  rw [ByteArray.data_extract]
  simp
theorem drop_cons8 {s : ByteArray} {k : Nat} (h : k < s.size) : s.data.toList.drop k = s[k] :: s.data.toList.drop (k + 1) := by
  have h2 : k < s.data.toList.length := by rw [Array.length_toList]; exact h
  rw [List.drop_eq_getElem_cons h2]
  rfl
theorem from_one (s : ByteArray) {a : Nat} (h : a < s.size) : bytesFrom s a (a + 1) = [s.get! a] := by
  unfold bytesFrom
  rw [ByteArray.data_extract]
  simp only [Array.toList_extract, List.extract_eq_take_drop]
  rw [drop_cons8 h, show a + 1 - a = 1 by omega]
  rw [get_get! s a h]
  rfl
end Go.Proofs.YtehgeninocbpeaaGreatDoor.Gl
