
import Derived.Test.YtegfgbcimlacbaaGreatDoorTp
import Derived.Test.YtegfgbcimlacbaaGreatDoorTb
import Derived.Lib.RuneBytes
import Derived.Lib.DecodeN
/-
  DERIVED. What is written of a text, and what is read of bytes, as runes.
-/
namespace Go.Proofs.YtegfgbcimlacbaaGreatDoor
open Go Go.Proofs Go.RowKit

def Val (r : Nat) : Prop := r < 55296 ∨ (57344 ≤ r ∧ r ≤ 1114111)
def tz (l : List UInt8) : List Int := l.map fun b => (b.toNat : Int)
def zb (o : List Int) : List UInt8 := o.map fun z => z.toNat.toUInt8
def utf (rs : List Nat) : List Int := rs.flatMap fun (r : Nat) => Lib.encodeRuneZ (r : Int)

theorem tz_app (x y : List UInt8) : tz (x ++ y) = tz x ++ tz y := by simp [tz]
theorem zb_app (x y : List Int) : zb (x ++ y) = zb x ++ zb y := by simp [zb]
theorem zb_tz (l : List UInt8) : zb (tz l) = l := by
  induction l with
  | nil => rfl
  | cons a l ih =>
    have : zb (tz (a :: l)) = (a.toNat : Int).toNat.toUInt8 :: zb (tz l) := rfl
    rw [this, ih]
    simp
theorem tz_zb {o : List Int} (h : ∀ z ∈ o, 0 ≤ z ∧ z < 256) : tz (zb o) = o := by
  induction o with
  | nil => rfl
  | cons a o ih =>
    have : tz (zb (a :: o)) = ((a.toNat.toUInt8).toNat : Int) :: tz (zb o) := rfl
    have ha := h a (by simp)
    rw [this, ih (fun z hz => h z (by simp [hz]))]
    congr 1
    simp
    omega
theorem tz_drop (l : List UInt8) (n : Nat) : tz (l.drop n) = (tz l).drop n := by simp [tz]
theorem tz_len (l : List UInt8) : (tz l).length = l.length := by simp [tz]
theorem zb_len (l : List Int) : (zb l).length = l.length := by simp [zb]

theorem decN_two {n r b2 b3 : Nat} (h0 : 128 ≤ r) (h1 : r ≤ 2047) (hn : 2 ≤ n) : Lib.decodeN n (192 + r / 64) (128 + r % 64) b2 b3 = (r, 2) := by
  unfold Lib.decodeN
  rw [if_neg (by omega), if_pos (by omega), if_pos (by omega)]
  congr 1
  omega
theorem decN_three {n r b3 : Nat} (h0 : 2048 ≤ r) (h1 : r ≤ 65535) (hv : Val r) (hn : 3 ≤ n) : Lib.decodeN n (224 + r / 4096) (128 + r / 64 % 64) (128 + r % 64) b3 = (r, 3) := by
  unfold Val at hv
  unfold Lib.decodeN
  have e : (224 + r / 4096) % 16 * 4096 + (128 + r / 64 % 64) % 64 * 64 + (128 + r % 64) % 64 = r := by omega
  rw [if_neg (by omega), if_neg (by omega), if_pos (by omega), e, if_pos (by omega)]
theorem decN_four {n r : Nat} (h0 : 65536 ≤ r) (h1 : r ≤ 1114111) (hn : 4 ≤ n) : Lib.decodeN n (240 + r / 262144) (128 + r / 4096 % 64) (128 + r / 64 % 64) (128 + r % 64) = (r, 4) := by
  unfold Lib.decodeN
  have e : (240 + r / 262144) % 8 * 262144 + (128 + r / 4096 % 64) % 64 * 4096 + (128 + r / 64 % 64) % 64 * 64 + (128 + r % 64) % 64 = r := by omega
  rw [if_neg (by omega), if_neg (by omega), if_neg (by omega), if_pos (by omega), e, if_pos (by omega)]
theorem decN_one {n r b1 b2 b3 : Nat} (h : r < 128) : Lib.decodeN n r b1 b2 b3 = (r, 1) := by
  unfold Lib.decodeN
  rw [if_pos h]

/-- A byte of a text, told by what stands from a place on. -/
theorem at_drop {s : ByteArray} {at' i : Nat} {L : List Int} {z : Int} (h : tz (s.data.toList.drop at') = L) (hz : L[i]? = some z) : ((bsT s (at' + i) : Nat) : Int) = z ∧ at' + i < s.size := by
  rw [← h] at hz
  unfold tz at hz
  rw [List.getElem?_map, List.getElem?_drop] at hz
  obtain ⟨b, hb, rfl⟩ := Option.map_eq_some_iff.1 hz
  have hl : at' + i < s.data.toList.length := (List.getElem?_eq_some_iff.1 hb).1
  have hl' : at' + i < s.size := by simpa using hl
  refine ⟨?_, hl'⟩
  rw [bsT_at hl']
  have : s[at' + i]'hl' = b := by
    have := (List.getElem?_eq_some_iff.1 hb).2
    rw [← this]
    rfl
  rw [this]

theorem decode_bsT (s : ByteArray) (at' : Nat) : Utf8.decode s at' = Lib.decodeN (s.size - at') (bsT s at') (bsT s (at' + 1)) (bsT s (at' + 2)) (bsT s (at' + 3)) := Lib.decode_at s at'

/-- What is laid down as a rune is read as it. -/
theorem dec_enc {s : ByteArray} {at' r : Nat} {rest : List Int} (hv : Val r) (h : tz (s.data.toList.drop at') = Lib.encodeRuneZ (r : Int) ++ rest) :
    Utf8.decode s at' = (r, (Lib.encodeRuneZ (r : Int)).length) := by
  rw [decode_bsT]
  unfold Val at hv
  rcases (show r < 128 ∨ (128 ≤ r ∧ r ≤ 2047) ∨ (2048 ≤ r ∧ r ≤ 65535) ∨ (65536 ≤ r ∧ r ≤ 1114111) by omega) with hr | hr | hr | hr
  · rw [Lib.encodeRuneZ_one (by omega) (by omega)] at h ⊢
    have h0 := (at_drop (i := 0) h rfl).1
    have e0 : bsT s at' = r := by rw [Nat.add_zero] at h0; omega
    rw [e0]
    exact decN_one hr
  · rw [Lib.encodeRuneZ_two (by omega) (by omega)] at h ⊢
    have h0 := (at_drop (i := 0) h rfl).1
    obtain ⟨h1, hs⟩ := at_drop (i := 1) h rfl
    have e0 : bsT s at' = 192 + r / 64 := by rw [Nat.add_zero] at h0; omega
    have e1 : bsT s (at' + 1) = 128 + r % 64 := by omega
    rw [e0, e1]
    exact decN_two hr.1 hr.2 (by omega)
  · rw [Lib.encodeRuneZ_three (by omega)] at h ⊢
    have h0 := (at_drop (i := 0) h rfl).1
    have h1 := (at_drop (i := 1) h rfl).1
    obtain ⟨h2, hs⟩ := at_drop (i := 2) h rfl
    have e0 : bsT s at' = 224 + r / 4096 := by rw [Nat.add_zero] at h0; omega
    have e1 : bsT s (at' + 1) = 128 + r / 64 % 64 := by omega
    have e2 : bsT s (at' + 2) = 128 + r % 64 := by omega
    rw [e0, e1, e2]
    exact decN_three hr.1 hr.2 hv (by omega)
  · rw [Lib.encodeRuneZ_four (by omega) (by omega)] at h ⊢
    have h0 := (at_drop (i := 0) h rfl).1
    have h1 := (at_drop (i := 1) h rfl).1
    have h2 := (at_drop (i := 2) h rfl).1
    obtain ⟨h3, hs⟩ := at_drop (i := 3) h rfl
    have e0 : bsT s at' = 240 + r / 262144 := by rw [Nat.add_zero] at h0; omega
    have e1 : bsT s (at' + 1) = 128 + r / 4096 % 64 := by omega
    have e2 : bsT s (at' + 2) = 128 + r / 64 % 64 := by omega
    have e3 : bsT s (at' + 3) = 128 + r % 64 := by omega
    rw [e0, e1, e2, e3]
    exact decN_four hr.1 hr.2 (by omega)

theorem drop_bsT {s : ByteArray} {at' : Nat} (h : at' < s.size) : tz (s.data.toList.drop at') = (bsT s at' : Int) :: tz (s.data.toList.drop (at' + 1)) := by
  rw [List.drop_eq_getElem_cons (by simpa using h)]
  rw [bsT_at h]
  rfl

/-- What is read as a rune was laid down as it, unless it is no rune at all. -/
theorem enc_dec {s : ByteArray} {at' : Nat} (h : at' < s.size) :
    ((Utf8.decode s at').1 = 65533 ∧ (Utf8.decode s at').2 = 1) ∨ (Val (Utf8.decode s at').1 ∧ (Utf8.decode s at').2 = (Lib.encodeRuneZ ((Utf8.decode s at').1 : Nat)).length ∧ tz (s.data.toList.drop at') = Lib.encodeRuneZ ((Utf8.decode s at').1 : Nat) ++ tz (s.data.toList.drop (at' + (Utf8.decode s at').2))) := by
  have hb0 := bsT_lt s at'
  have hb1 := bsT_lt s (at' + 1)
  have hb2 := bsT_lt s (at' + 2)
  have hb3 := bsT_lt s (at' + 3)
  rw [decode_bsT]
  unfold Lib.decodeN
  split
  · rename_i h0
    refine .inr ⟨.inl (by simp only; omega), ?_, ?_⟩
    · simp only [Lib.encodeRuneZ_one (r := (bsT s at' : Int)) (by omega) (by omega)]; rfl
    · simp only [Lib.encodeRuneZ_one (r := (bsT s at' : Int)) (by omega) (by omega)]
      exact drop_bsT h
  · split
    · rename_i h0 h1
      split
      · rename_i h2
        generalize hr : bsT s at' % 32 * 64 + bsT s (at' + 1) % 64 = r at h2
        have e := Lib.encodeRuneZ_two (r := (r : Int)) (by omega) (by omega)
        refine .inr ⟨.inl (by simp only; omega), by simp only [e]; rfl, ?_⟩
        simp only [e]
        rw [drop_bsT h, drop_bsT (by omega : at' + 1 < s.size)]
        simp only [List.cons_append, List.nil_append]
        congr 1
        · omega
        · congr 1; omega
      · exact .inl ⟨rfl, rfl⟩
    · split
      · rename_i h0 h1 h2
        split
        · rename_i h3
          generalize hr : bsT s at' % 16 * 4096 + bsT s (at' + 1) % 64 * 64 + bsT s (at' + 2) % 64 = r at h3
          have e := Lib.encodeRuneZ_three (r := (r : Int)) (by omega)
          refine .inr ⟨by unfold Val; simp only; omega, by simp only [e]; rfl, ?_⟩
          simp only [e]
          rw [drop_bsT h, drop_bsT (by omega : at' + 1 < s.size), drop_bsT (by omega : at' + 1 + 1 < s.size)]
          simp only [List.cons_append, List.nil_append, Nat.add_assoc, Nat.reduceAdd]
          congr 1
          · omega
          · congr 1
            · omega
            · congr 1; omega
        · exact .inl ⟨rfl, rfl⟩
      · split
        · rename_i h0 h1 h2 h3
          split
          · rename_i h4
            generalize hr : bsT s at' % 8 * 262144 + bsT s (at' + 1) % 64 * 4096 + bsT s (at' + 2) % 64 * 64 + bsT s (at' + 3) % 64 = r at h4
            have e := Lib.encodeRuneZ_four (r := (r : Int)) (by omega) (by omega)
            refine .inr ⟨by unfold Val; simp only; omega, by simp only [e]; rfl, ?_⟩
            simp only [e]
            rw [drop_bsT h, drop_bsT (by omega : at' + 1 < s.size), drop_bsT (by omega : at' + 1 + 1 < s.size), drop_bsT (by omega : at' + 1 + 1 + 1 < s.size)]
            simp only [List.cons_append, List.nil_append, Nat.add_assoc, Nat.reduceAdd]
            congr 1
            · omega
            · congr 1
              · omega
              · congr 1
                · omega
                · congr 1; omega
          · exact .inl ⟨rfl, rfl⟩
        · exact .inl ⟨rfl, rfl⟩

theorem pre_tz (s : ByteArray) (at' : Nat) : pre (s.extract at' s.size) fffd = (tz ((s.data.toList.drop at').take 3) == [239, 191, 189]) := by
  rw [ba_ext]
  generalize s.data.toList.drop at' = l
  unfold pre
  rw [ba_take, ba_size, ByteArray.toList_eq]
  have e : fffd.size = 3 := rfl
  have e2 : fffd.data.toList = [239, 191, 189] := rfl
  rw [e, e2]
  match l with
  | [] => rfl
  | [a] => simp [tz]
  | [a, b] => simp [tz]
  | a :: b :: c :: l =>
    have hu : ∀ (x y : UInt8), (x == y) = ((x.toNat : Int) == (y.toNat : Int)) := fun x y => by
      rw [Bool.eq_iff_iff, beq_iff_eq, beq_iff_eq]
      exact ⟨fun e => by rw [e], fun e => UInt8.toNat_inj.1 (by omega)⟩
    simp [tz, hu]

/-- Whether a rune only stands for bytes that are none. -/
theorem brk_iff {s : ByteArray} {at' : Nat} (h : at' < s.size) : brk (s.extract at' s.size) ((Utf8.decode s at').1 : Nat) = true ↔ (Utf8.decode s at').1 = 65533 ∧ (Utf8.decode s at').2 = 1 := by
  unfold brk
  rw [pre_tz, Bool.and_eq_true, decide_eq_true_eq, Bool.not_eq_true']
  constructor
  · rintro ⟨h1, h2⟩
    rcases enc_dec h with h3 | ⟨_, h4, h5⟩
    · exact h3
    · have e : (Utf8.decode s at').1 = 65533 := by omega
      rw [e, Lib.encodeRuneZ_three (by omega)] at h5
      have : tz ((s.data.toList.drop at').take 3) = [239, 191, 189] := by
        have : tz ((s.data.toList.drop at').take 3) = (tz (s.data.toList.drop at')).take 3 := by simp [tz]
        rw [this, h5]
        rfl
      rw [this] at h2
      simp at h2
  · rintro ⟨h1, h2⟩
    refine ⟨by omega, ?_⟩
    cases hb : (tz ((s.data.toList.drop at').take 3) == [239, 191, 189]) with
    | false => rfl
    | true =>
      have hb := eq_of_beq hb
      have h3 : tz (s.data.toList.drop at') = Lib.encodeRuneZ ((65533 : Nat) : Int) ++ tz ((s.data.toList.drop at').drop 3) := by
        rw [Lib.encodeRuneZ_three (by omega)]
        have : tz (s.data.toList.drop at') = tz ((s.data.toList.drop at').take 3) ++ tz ((s.data.toList.drop at').drop 3) := by rw [← tz_app, List.take_append_drop]
        rw [this, hb]
        rfl
      have := dec_enc (r := 65533) (by unfold Val; omega) h3
      rw [this] at h2
      rw [Lib.encodeRuneZ_three (by omega)] at h2
      simp at h2
end Go.Proofs.YtegfgbcimlacbaaGreatDoor
