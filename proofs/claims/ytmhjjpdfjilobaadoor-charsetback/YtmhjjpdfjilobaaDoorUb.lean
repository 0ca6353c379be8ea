import Derived.Test.YtmhjjpdfjilobaaDoorUa
import Derived.Test.YtmhjjpdfjilobaaDoorTh
import Derived.Test.YtmhjjpdfjilobaaDoorOi
/-
  DERIVED. There and back: what is written is read, what is read is written.
-/
namespace Go.Proofs.YtmhjjpdfjilobaaDoor
open Go Go.Proofs Go.RowKit

theorem plain_lo {kc : ByteArray} {r : Int} (h : plainR kc r = true) : 0 ≤ r ∧ r < 128 := by
  unfold plainR asc hasR at h
  simp only [Bool.or_eq_true, Bool.and_eq_true, decide_eq_true_eq] at h
  omega
theorem plain_hi {kc : ByteArray} {r : Int} (h : 128 ≤ r) : plainR kc r = false := by
  cases hp : plainR kc r with
  | false => rfl
  | true => have := plain_lo hp; omega

/-- Which runes may be written. -/
def Gd (kc : ByteArray) (a : Row) (R : List Row) (r : Nat) : Prop := plainR kc (r : Int) = true ∨ (hasS a R (r : Int) = true ∧ Val r)
theorem Gd.val {kc : ByteArray} {a : Row} {R : List Row} {r : Nat} (h : Gd kc a R r) : Val r := by
  rcases h with h | h
  · have := plain_lo h; exact .inl (by omega)
  · exact h.2

/-- What is written of runes. -/
def wrRs (P : Row → Int → List Int × Row) (kc ke : ByteArray) (a : Row) : Row → List Nat → List Int
  | _, [] => []
  | h, r :: rs => if plainR kc (r : Int) = true then (r : Int) :: wrRs P kc ke a (if hasR ke (r : Int) = true then a else h) rs else (P h (r : Int)).1 ++ wrRs P kc ke a (P h (r : Int)).2 rs

theorem enc_ne (r : Int) : ∃ z l, Lib.encodeRuneZ r = z :: l := by
  have := (Lib.encodeRuneZ_length r).1
  cases h : Lib.encodeRuneZ r with
  | nil => rw [h] at this; simp at this
  | cons z l => exact ⟨z, l, rfl⟩

theorem wr_runes (P : Row → Int → List Int × Row) (kc ke : ByteArray) (a : Row) (R : List Row) (s : ByteArray) : ∀ (f at' : Nat) (h : Row) (out o : List Int), s.size - at' ≤ f → wrS P kc ke a R s f at' h out = .ok o →
    ∃ rs : List Nat, (∀ r ∈ rs, Gd kc a R r) ∧ tz (s.data.toList.drop at') = utf rs ∧ o = out ++ wrRs P kc ke a h rs
  | 0, at', h, out, o, hf, hw => by
    refine ⟨[], by simp, ?_, ?_⟩
    · rw [List.drop_of_length_le (by rw [data_len]; omega)]; rfl
    · rw [wrS_past P kc ke a R s 0 at' h out (by omega)] at hw
      cases hw
      simp [wrRs]
  | f + 1, at', h, out, o, hf, hw => by
    by_cases hat : at' < s.size
    · rw [wrS, if_pos hat] at hw
      have hen := enc_dec hat
      have hbr := brk_iff hat
      generalize Utf8.decode s at' = D at *
      obtain ⟨r, n⟩ := D
      simp only at hw hen hbr
      by_cases hp : plainR kc (r : Int) = true
      · rw [if_pos hp] at hw
        have hlo := plain_lo hp
        rcases hen with ⟨h1, _⟩ | ⟨hv, hn, ht⟩
        · omega
        · have hl := (Lib.encodeRuneZ_length (r : Int)).1
          obtain ⟨rs, hg, hts, ho⟩ := wr_runes P kc ke a R s f (at' + n) _ _ o (by omega) hw
          refine ⟨r :: rs, ?_, ?_, ?_⟩
          · intro r' hr'
            rcases List.mem_cons.1 hr' with rfl | hr'
            · exact .inl hp
            · exact hg r' hr'
          · rw [ht, hts]; rfl
          · rw [ho, wrRs, if_pos hp]; simp
      · rw [if_neg hp] at hw
        split at hw
        · cases hw
        · rename_i hno
          simp only [Bool.or_eq_true, Bool.not_eq_true', not_or, Bool.not_eq_false] at hno
          obtain ⟨hh, hb⟩ := hno
          rcases hen with h1 | ⟨hv, hn, ht⟩
          · exact absurd (hbr.2 h1) hb
          · have hl := (Lib.encodeRuneZ_length (r : Int)).1
            obtain ⟨rs, hg, hts, ho⟩ := wr_runes P kc ke a R s f (at' + n) _ _ o (by omega) hw
            refine ⟨r :: rs, ?_, ?_, ?_⟩
            · intro r' hr'
              rcases List.mem_cons.1 hr' with rfl | hr'
              · exact .inr ⟨hh, hv⟩
              · exact hg r' hr'
            · rw [ht, hts]; rfl
            · rw [ho, wrRs, if_neg hp]; simp
    · refine ⟨[], by simp, ?_, ?_⟩
      · rw [List.drop_of_length_le (by rw [data_len]; omega)]; rfl
      · rw [wrS_past P kc ke a R s (f + 1) at' h out (by omega)] at hw
        cases hw
        simp [wrRs]

theorem wr_text (P : Row → Int → List Int × Row) (kc ke : ByteArray) (a : Row) (R : List Row) (s : ByteArray) : ∀ (rs : List Nat) (f at' : Nat) (h : Row) (out : List Int), s.size - at' ≤ f → (∀ r ∈ rs, Gd kc a R r) → tz (s.data.toList.drop at') = utf rs →
    wrS P kc ke a R s f at' h out = .ok (out ++ wrRs P kc ke a h rs)
  | [], f, at', h, out, hf, hg, ht => by
    have : s.size ≤ at' := by
      have := congrArg List.length ht
      rw [tz_len, List.length_drop, data_len] at this
      simp [utf] at this
      omega
    rw [wrS_past P kc ke a R s f at' h out this]
    simp [wrRs]
  | r :: rs, f, at', h, out, hf, hg, ht => by
    have ht' : tz (s.data.toList.drop at') = Lib.encodeRuneZ (r : Int) ++ utf rs := ht
    have hv := (hg r (by simp)).val
    have hd := dec_enc hv ht'
    obtain ⟨z, l, hz⟩ := enc_ne (r : Int)
    have hat : at' < s.size := (at_drop (i := 0) ht' (by rw [hz]; rfl)).2
    obtain ⟨f, rfl⟩ : ∃ g, f = g + 1 := ⟨f - 1, by omega⟩
    have hl := (Lib.encodeRuneZ_length (r : Int)).1
    have hrest : tz (s.data.toList.drop (at' + (Lib.encodeRuneZ (r : Int)).length)) = utf rs := by
      rw [← List.drop_drop, tz_drop, ht', List.drop_left]
    have hbr := brk_iff hat
    rw [wrS, if_pos hat]
    rw [hd] at hbr ⊢
    simp only at hbr ⊢
    rw [wrRs]
    by_cases hp : plainR kc (r : Int) = true
    · rw [if_pos hp, if_pos hp, wr_text P kc ke a R s rs f _ _ _ (by omega) (fun r' hr' => hg r' (by simp [hr'])) hrest]
      simp
    · rw [if_neg hp, if_neg hp]
      have hh : hasS a R (r : Int) = true := by
        rcases hg r (by simp) with h | h
        · exact absurd h hp
        · exact h.1
      have hb : brk (s.extract at' s.size) (r : Int) = false := by
        cases hb : brk (s.extract at' s.size) (r : Int) with
        | false => rfl
        | true =>
          obtain ⟨h1, h2⟩ := hbr.1 hb
          subst h1
          rw [Lib.encodeRuneZ_three (by omega)] at h2
          simp at h2
      rw [hh, hb, if_neg (by decide), wr_text P kc ke a R s rs f _ _ _ (by omega) (fun r' hr' => hg r' (by simp [hr'])) hrest]
      simp

/-- How a rune is put. -/
def Pz (a : Row) (R : List Row) (h : Row) (r : Int) : List Int × Row :=
  if a.1 = 6 then (Lib.encodeRuneZ r, h)
  else if byteOf h.1 r ≠ 0 then ([(byteOf h.1 r : Int)], h)
  else match (a :: R).find? (fun b => !(byteOf b.1 r == 0)) with
    | some b => (escZ b r, b)
    | none => ([63], h)

/-- What New gives. -/
structure Cond (x : Bool) (a : Row) (R : List Row) : Prop where
  n7 : ∀ r ∈ a :: R, r.1 < 7
  nd : ((a :: R).map (·.1)).Nodup
  x0 : x = false → R = []
  x6 : x = true → ∀ r ∈ a :: R, r.1 < 6

theorem byteL_at (k : Nat) (r : Int) : ∀ n, byteL k r n ≠ 0 → ∃ d, d < n ∧ mean k d ≠ 0 ∧ r = (mean k d : Nat) ∧ byteL k r n = 160 + d
  | 0, h => by simp [byteL] at h
  | n + 1, h => by
    rw [byteL] at h ⊢
    by_cases hc : r = (mean k n : Nat) ∧ mean k n ≠ 0
    · rw [if_pos hc]
      exact ⟨n, by omega, hc.2, hc.1, rfl⟩
    · rw [if_neg hc] at h ⊢
      obtain ⟨d, h1, h2, h3, h4⟩ := byteL_at k r n h
      exact ⟨d, by omega, h2, h3, h4⟩
theorem byteOf_at {k : Nat} {r : Int} (h : byteOf k r ≠ 0) : ∃ d, d < 96 ∧ mean k d ≠ 0 ∧ r = (mean k d : Nat) ∧ byteOf k r = 160 + d := byteL_at k r 96 h
/-- One to one. -/
theorem byteOf_mean {k d : Nat} (hk : k < 7) (hd : d < 96) (h : mean k d ≠ 0) : byteOf k (mean k d : Nat) = 160 + d := by
  have : byteOf k (mean k d : Nat) ≠ 0 := (byteL_iff k _ 96).2 ⟨d, hd, h, rfl⟩
  obtain ⟨e, h1, h2, h3, h4⟩ := byteOf_at this
  have := mean_inj ⟨k, hk⟩ ⟨d, hd⟩ ⟨e, h1⟩ (by simp only; omega) h
  have : d = e := congrArg Fin.val this
  omega
theorem mean_val : ∀ (k : Fin 7) (d : Fin 96), mean k.val d.val < 55296 := by decide +kernel

theorem hasS_first {a : Row} {R : List Row} {r : Int} (h6 : a.1 ≠ 6) (hasc : asc r = false) (h : hasS a R r = true) : ∃ b ∈ a :: R, (a :: R).find? (fun b => !(byteOf b.1 r == 0)) = some b ∧ byteOf b.1 r ≠ 0 := by
  unfold hasS at h
  have : (a.1 == 6) = false := by simpa using h6
  rw [hasc, this] at h
  simp only [Bool.false_or, Bool.false_eq_true, if_false, Bool.not_eq_true', beq_eq_false_iff_ne] at h
  obtain ⟨b, hb, hb0⟩ := (firstB_iff r (a :: R)).1 h
  cases hf : (a :: R).find? (fun b => !(byteOf b.1 r == 0)) with
  | none =>
    have := List.find?_eq_none.1 hf b hb
    simp [hb0] at this
  | some c =>
    refine ⟨c, List.mem_of_find?_eq_some hf, rfl, ?_⟩
    have := List.find?_some hf
    simpa using this

/-- What the escape of a repertoire turns to. -/
theorem esc_tab : ∀ (k b : Fin 6), ((sp (3 * b.val + 2)).data.toList == (sp (3 * k.val + 2)).data.toList) = (k.val == b.val) := by decide +kernel
theorem esc_hd : ∀ b : Fin 6, ∃ c d, (sp (3 * b.val + 2)).data.toList = [27, c, d] := by
  intro b
  match b with
  | ⟨0, _⟩ => exact ⟨_, _, rfl⟩
  | ⟨1, _⟩ => exact ⟨_, _, rfl⟩
  | ⟨2, _⟩ => exact ⟨_, _, rfl⟩
  | ⟨3, _⟩ => exact ⟨_, _, rfl⟩
  | ⟨4, _⟩ => exact ⟨_, _, rfl⟩
  | ⟨5, _⟩ => exact ⟨_, _, rfl⟩
theorem pre_esc (b k : Nat) (hb : b < 6) (hk : k < 6) (rest : List UInt8) : pre (ba ((sp (3 * b + 2)).data.toList ++ rest)) (sp (3 * k + 2)) = (k == b) := by
  obtain ⟨c, d, he⟩ := esc_hd ⟨b, hb⟩
  simp only at he
  have ht := esc_tab ⟨k, hk⟩ ⟨b, hb⟩
  simp only at ht
  rw [pre_ba _ k hk, ByteArray.toList_eq, ← ht, he]
  simp
theorem escL_esc (b : Row) (rest : List UInt8) (hb : b.1 < 6) : ∀ R : List Row, (∀ r ∈ R, r.1 < 6) → (R.map (·.1)).Nodup → b ∈ R → escL (ba ((sp (3 * b.1 + 2)).data.toList ++ rest)) R = some b
  | [], _, _, hm => by simp at hm
  | c :: R, h6, hn, hm => by
    rw [escL, pre_esc b.1 c.1 hb (h6 c (by simp)) rest]
    by_cases hc : c.1 = b.1
    · rw [if_pos (by simpa using hc)]
      rcases List.mem_cons.1 hm with rfl | hm
      · rfl
      · rw [List.map_cons, List.nodup_cons] at hn
        exact absurd (by rw [hc]; exact List.mem_map.2 ⟨b, hm, rfl⟩) hn.1
    · rw [if_neg (by simpa using hc)]
      rw [List.map_cons, List.nodup_cons] at hn
      refine escL_esc b rest hb R (fun r hr => h6 r (by simp [hr])) hn.2 ?_
      rcases List.mem_cons.1 hm with rfl | hm
      · exact absurd rfl hc
      · exact hm
theorem turn_esc {x : Bool} {a : Row} {R : List Row} (hC : Cond x a R) (hx : x = true) (b h : Row) (hb : b ∈ a :: R) (hb0 : b.1 ≠ 0) (rest : List UInt8) : turnS (ba ((sp (3 * b.1 + 2)).data.toList ++ rest)) (a :: R) h = (b, true) := by
  have h6 := hC.x6 hx
  unfold turnS
  have := pre_esc b.1 0 (h6 b hb) (by omega) rest
  rw [show 3 * 0 + 2 = 2 from rfl] at this
  rw [this, if_neg (by simp; omega), escL_esc b rest (h6 b hb) _ h6 hC.nd hb]
theorem turn_in {s : ByteArray} {R : List Row} {h : Row} (hm : h ∈ R) : (turnS s R h).1 ∈ R := by
  have hl : ∀ (R : List Row) (r : Row), escL s R = some r → r ∈ R := by
    intro R
    induction R with
    | nil => intro r h; simp [escL] at h
    | cons c R ih =>
      intro r h
      rw [escL] at h
      split at h
      · cases h; simp
      · exact List.mem_cons_of_mem _ (ih r h)
  unfold turnS
  split
  · exact hm
  · cases he : escL s R with
    | none => exact hm
    | some r => exact hl R r he

theorem byte_nat (k : Nat) (r : Int) : ((byteOf k r : Int).toNat.toUInt8).toNat = byteOf k r := by
  have := byte_lt k r
  simp
  omega
theorem nat_byte {b : Nat} (h : b < 256) : ((b : Int).toNat.toUInt8).toNat = b := by
  simp
  omega

/-- The byte of a rune of the repertoire that holds is read as it. -/
theorem rd_byte (x : Bool) (kc ke : ByteArray) (a : Row) (R : List Row) (f : Nat) (h : Row) (r : Int) (l : List UInt8) (h6 : a.1 ≠ 6) (hk : h.1 < 7) (hb : byteOf h.1 r ≠ 0) :
    rdO x kc ke a R (f + 1) ((byteOf h.1 r : Int).toNat.toUInt8 :: l) h = (rdO x kc ke a R f l h).map (Lib.encodeRuneZ r ++ ·) := by
  obtain ⟨d, h1, h2, h3, h4⟩ := byteOf_at hb
  have hn := byte_nat h.1 r
  have hu : (a.1 == 6) = false := by simpa using h6
  have hhd : headS (a.1 == 6) kc h (byteOf h.1 r) (ba ((byteOf h.1 r : Int).toNat.toUInt8 :: l)) = (mean h.1 d, 1) := by
    unfold headS
    rw [if_neg (by rw [plain_hi (by omega)]; decide), hu, if_neg (by decide), if_pos (by rw [h4, Nat.add_sub_cancel_left]; exact ⟨by omega, h2⟩), h4, Nat.add_sub_cancel_left]
  rw [rdO, hn, if_neg (by simp; omega), hhd, if_neg (by simp)]
  simp only
  have hm := mean_high ⟨h.1, hk⟩ ⟨d, h1⟩
  simp only at hm
  rw [hasR_far ke (by omega), if_neg (by simp), ← h3]
  rfl
end Go.Proofs.YtmhjjpdfjilobaaDoor
