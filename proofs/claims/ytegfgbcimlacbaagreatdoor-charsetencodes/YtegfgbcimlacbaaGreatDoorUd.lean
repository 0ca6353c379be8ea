
import Derived.Test.YtegfgbcimlacbaaGreatDoorUa
import Derived.Test.YtegfgbcimlacbaaGreatDoorTh
import Derived.Test.YtegfgbcimlacbaaGreatDoorOi
import Derived.Test.YtegfgbcimlacbaaGreatDoorTd
/-
  DERIVED. There and back: what is written is read, what is read is written.
-/
namespace Go.Proofs.YtegfgbcimlacbaaGreatDoor
open Go Go.Proofs Go.RowKit

theorem plain_lo {kc : ByteArray} {r : Int} (h : plainR kc r = true) : 0 ≤ r ∧ r < 128 := by
  unfold plainR asc hasR at h
  simp only [Bool.or_eq_true, Bool.and_eq_true, decide_eq_true_eq] at h
  omega
theorem plain_hi {kc : ByteArray} {r : Int} (h : 128 ≤ r) : plainR kc r = false := by
  cases hp : plainR kc r with
  | false => rfl
  | true => have := plain_lo hp; omega

/-- Which runes may be written. -/
def Gd (kc : ByteArray) (a : Row) (R : List Row) (r : Nat) : Prop := plainR kc (r : Int) = true ∨ (hasS a R (r : Int) = true ∧ Val r)
theorem Gd.val {kc : ByteArray} {a : Row} {R : List Row} {r : Nat} (h : Gd kc a R r) : Val r := by
  rcases h with h | h
  · have := plain_lo h; exact .inl (by omega)
  · exact h.2

/-- What is written of runes. -/
def wrRs (P : Row → Int → List Int × Row) (kc ke : ByteArray) (a : Row) : Row → List Nat → List Int
  | _, [] => []
  | h, r :: rs => if plainR kc (r : Int) = true then (r : Int) :: wrRs P kc ke a (if hasR ke (r : Int) = true then a else h) rs else (P h (r : Int)).1 ++ wrRs P kc ke a (P h (r : Int)).2 rs

theorem enc_ne (r : Int) : ∃ z l, Lib.encodeRuneZ r = z :: l := by
  have := (Lib.encodeRuneZ_length r).1
  cases h : Lib.encodeRuneZ r with
  | nil => rw [h] at this; simp at this
  | cons z l => exact ⟨z, l, rfl⟩

theorem wr_runes (P : Row → Int → List Int × Row) (kc ke : ByteArray) (a : Row) (R : List Row) (s : ByteArray) : ∀ (f at' : Nat) (h : Row) (out o : List Int), s.size - at' ≤ f → wrS P kc ke a R s f at' h out = .ok o →
    ∃ rs : List Nat, (∀ r ∈ rs, Gd kc a R r) ∧ tz (s.data.toList.drop at') = utf rs ∧ o = out ++ wrRs P kc ke a h rs
  | 0, at', h, out, o, hf, hw => by
    refine ⟨[], by simp, ?_, ?_⟩
    · rw [List.drop_of_length_le (by rw [data_len]; omega)]; rfl
    · rw [wrS_past P kc ke a R s 0 at' h out (by omega)] at hw
      cases hw
      simp [wrRs]
  | f + 1, at', h, out, o, hf, hw => by
    by_cases hat : at' < s.size
    · rw [wrS, if_pos hat] at hw
      have hen := enc_dec hat
      have hbr := brk_iff hat
      generalize Utf8.decode s at' = D at *
      obtain ⟨r, n⟩ := D
      simp only at hw hen hbr
      by_cases hp : plainR kc (r : Int) = true
      · rw [if_pos hp] at hw
        have hlo := plain_lo hp
        rcases hen with ⟨h1, _⟩ | ⟨hv, hn, ht⟩
        · omega
        · have hl := (Lib.encodeRuneZ_length (r : Int)).1
          obtain ⟨rs, hg, hts, ho⟩ := wr_runes P kc ke a R s f (at' + n) _ _ o (by omega) hw
          refine ⟨r :: rs, ?_, ?_, ?_⟩
          · intro r' hr'
            rcases List.mem_cons.1 hr' with rfl | hr'
            · exact .inl hp
            · exact hg r' hr'
          · rw [ht, hts]; rfl
          · rw [ho, wrRs, if_pos hp]; simp
      · rw [if_neg hp] at hw
        split at hw
        · cases hw
        · rename_i hno
          simp only [Bool.or_eq_true, Bool.not_eq_true', not_or, Bool.not_eq_false] at hno
          obtain ⟨hh, hb⟩ := hno
          rcases hen with h1 | ⟨hv, hn, ht⟩
          · exact absurd (hbr.2 h1) hb
          · have hl := (Lib.encodeRuneZ_length (r : Int)).1
            obtain ⟨rs, hg, hts, ho⟩ := wr_runes P kc ke a R s f (at' + n) _ _ o (by omega) hw
            refine ⟨r :: rs, ?_, ?_, ?_⟩
            · intro r' hr'
              rcases List.mem_cons.1 hr' with rfl | hr'
              · exact .inr ⟨hh, hv⟩
              · exact hg r' hr'
            · rw [ht, hts]; rfl
            · rw [ho, wrRs, if_neg hp]; simp
    · refine ⟨[], by simp, ?_, ?_⟩
      · rw [List.drop_of_length_le (by rw [data_len]; omega)]; rfl
      · rw [wrS_past P kc ke a R s (f + 1) at' h out (by omega)] at hw
        cases hw
        simp [wrRs]

theorem wr_text (P : Row → Int → List Int × Row) (kc ke : ByteArray) (a : Row) (R : List Row) (s : ByteArray) : ∀ (rs : List Nat) (f at' : Nat) (h : Row) (out : List Int), s.size - at' ≤ f → (∀ r ∈ rs, Gd kc a R r) → tz (s.data.toList.drop at') = utf rs →
    wrS P kc ke a R s f at' h out = .ok (out ++ wrRs P kc ke a h rs)
  | [], f, at', h, out, hf, hg, ht => by
    have : s.size ≤ at' := by
      have := congrArg List.length ht
      rw [tz_len, List.length_drop, data_len] at this
      simp [utf] at this
      omega
    rw [wrS_past P kc ke a R s f at' h out this]
    simp [wrRs]
  | r :: rs, f, at', h, out, hf, hg, ht => by
    have ht' : tz (s.data.toList.drop at') = Lib.encodeRuneZ (r : Int) ++ utf rs := ht
    have hv := (hg r (by simp)).val
    have hd := dec_enc hv ht'
    obtain ⟨z, l, hz⟩ := enc_ne (r : Int)
    have hat : at' < s.size := (at_drop (i := 0) ht' (by rw [hz]; rfl)).2
    obtain ⟨f, rfl⟩ : ∃ g, f = g + 1 := ⟨f - 1, by omega⟩
    have hl := (Lib.encodeRuneZ_length (r : Int)).1
    have hrest : tz (s.data.toList.drop (at' + (Lib.encodeRuneZ (r : Int)).length)) = utf rs := by
      rw [← List.drop_drop, tz_drop, ht', List.drop_left]
    have hbr := brk_iff hat
    rw [wrS, if_pos hat]
    rw [hd] at hbr ⊢
    simp only at hbr ⊢
    rw [wrRs]
    by_cases hp : plainR kc (r : Int) = true
    · rw [if_pos hp, if_pos hp, wr_text P kc ke a R s rs f _ _ _ (by omega) (fun r' hr' => hg r' (by simp [hr'])) hrest]
      simp
    · rw [if_neg hp, if_neg hp]
      have hh : hasS a R (r : Int) = true := by
        rcases hg r (by simp) with h | h
        · exact absurd h hp
        · exact h.1
      have hb : brk (s.extract at' s.size) (r : Int) = false := by
        cases hb : brk (s.extract at' s.size) (r : Int) with
        | false => rfl
        | true =>
          obtain ⟨h1, h2⟩ := hbr.1 hb
          subst h1
          rw [Lib.encodeRuneZ_three (by omega)] at h2
          simp at h2
      rw [hh, hb, if_neg (by decide), wr_text P kc ke a R s rs f _ _ _ (by omega) (fun r' hr' => hg r' (by simp [hr'])) hrest]
      simp

/-- How a rune is put. -/
def Pz (a : Row) (R : List Row) (h : Row) (r : Int) : List Int × Row :=
  if a.1 = 6 then (Lib.encodeRuneZ r, h)
  else if byteOf h.1 r ≠ 0 then ([(byteOf h.1 r : Int)], h)
  else match (a :: R).find? (fun b => !(byteOf b.1 r == 0)) with
    | some b => (escZ b r, b)
    | none => ([63], h)

/-- What New gives. -/
structure Cond (x : Bool) (a : Row) (R : List Row) : Prop where
  n7 : ∀ r ∈ a :: R, r.1 < 7
  nd : ((a :: R).map (·.1)).Nodup
  x0 : x = false → R = []
  x6 : x = true → ∀ r ∈ a :: R, r.1 < 6

theorem byteL_at (k : Nat) (r : Int) : ∀ n, byteL k r n ≠ 0 → ∃ d, d < n ∧ mean k d ≠ 0 ∧ r = (mean k d : Nat) ∧ byteL k r n = 160 + d
  | 0, h => by simp [byteL] at h
  | n + 1, h => by
    rw [byteL] at h ⊢
    by_cases hc : r = (mean k n : Nat) ∧ mean k n ≠ 0
    · rw [if_pos hc]
      exact ⟨n, by omega, hc.2, hc.1, rfl⟩
    · rw [if_neg hc] at h ⊢
      obtain ⟨d, h1, h2, h3, h4⟩ := byteL_at k r n h
      exact ⟨d, by omega, h2, h3, h4⟩
theorem byteOf_at {k : Nat} {r : Int} (h : byteOf k r ≠ 0) : ∃ d, d < 96 ∧ mean k d ≠ 0 ∧ r = (mean k d : Nat) ∧ byteOf k r = 160 + d := byteL_at k r 96 h
/-- One to one. -/
theorem byteOf_mean {k d : Nat} (hk : k < 7) (hd : d < 96) (h : mean k d ≠ 0) : byteOf k (mean k d : Nat) = 160 + d := by
  have : byteOf k (mean k d : Nat) ≠ 0 := (byteL_iff k _ 96).2 ⟨d, hd, h, rfl⟩
  obtain ⟨e, h1, h2, h3, h4⟩ := byteOf_at this
  have := mean_inj ⟨k, hk⟩ ⟨d, hd⟩ ⟨e, h1⟩ (by simp only; omega) h
  have : d = e := congrArg Fin.val this
  omega
theorem mean_val : ∀ (k : Fin 7) (d : Fin 96), mean k.val d.val < 55296 := by decide +kernel

theorem hasS_first {a : Row} {R : List Row} {r : Int} (h6 : a.1 ≠ 6) (hasc : asc r = false) (h : hasS a R r = true) : ∃ b ∈ a :: R, (a :: R).find? (fun b => !(byteOf b.1 r == 0)) = some b ∧ byteOf b.1 r ≠ 0 := by
  unfold hasS at h
  have : (a.1 == 6) = false := by simpa using h6
  rw [hasc, this] at h
  simp only [Bool.false_or, Bool.false_eq_true, if_false, Bool.not_eq_true', beq_eq_false_iff_ne] at h
  obtain ⟨b, hb, hb0⟩ := (firstB_iff r (a :: R)).1 h
  cases hf : (a :: R).find? (fun b => !(byteOf b.1 r == 0)) with
  | none =>
    have := List.find?_eq_none.1 hf b hb
    simp [hb0] at this
  | some c =>
    refine ⟨c, List.mem_of_find?_eq_some hf, rfl, ?_⟩
    have := List.find?_some hf
    simpa using this

/-- What the escape of a repertoire turns to. -/
theorem esc_tab : ∀ (k b : Fin 6), ((sp (3 * b.val + 2)).data.toList == (sp (3 * k.val + 2)).data.toList) = (k.val == b.val) := by decide +kernel
theorem esc_hd : ∀ b : Fin 6, ∃ c d, (sp (3 * b.val + 2)).data.toList = [27, c, d] := by
  intro b
  match b with
  | ⟨0, _⟩ => exact ⟨_, _, rfl⟩
  | ⟨1, _⟩ => exact ⟨_, _, rfl⟩
  | ⟨2, _⟩ => exact ⟨_, _, rfl⟩
  | ⟨3, _⟩ => exact ⟨_, _, rfl⟩
  | ⟨4, _⟩ => exact ⟨_, _, rfl⟩
  | ⟨5, _⟩ => exact ⟨_, _, rfl⟩
theorem pre_esc (b k : Nat) (hb : b < 6) (hk : k < 6) (rest : List UInt8) : pre (ba ((sp (3 * b + 2)).data.toList ++ rest)) (sp (3 * k + 2)) = (k == b) := by
  obtain ⟨c, d, he⟩ := esc_hd ⟨b, hb⟩
  simp only at he
  have ht := esc_tab ⟨k, hk⟩ ⟨b, hb⟩
  simp only at ht
  rw [pre_ba _ k hk, ByteArray.toList_eq, ← ht, he]
  simp
theorem escL_esc (b : Row) (rest : List UInt8) (hb : b.1 < 6) : ∀ R : List Row, (∀ r ∈ R, r.1 < 6) → (R.map (·.1)).Nodup → b ∈ R → escL (ba ((sp (3 * b.1 + 2)).data.toList ++ rest)) R = some b
  | [], _, _, hm => by simp at hm
  | c :: R, h6, hn, hm => by
    rw [escL, pre_esc b.1 c.1 hb (h6 c (by simp)) rest]
    by_cases hc : c.1 = b.1
    · rw [if_pos (by simpa using hc)]
      rcases List.mem_cons.1 hm with rfl | hm
      · rfl
      · rw [List.map_cons, List.nodup_cons] at hn
        exact absurd (by rw [hc]; exact List.mem_map.2 ⟨b, hm, rfl⟩) hn.1
    · rw [if_neg (by simpa using hc)]
      rw [List.map_cons, List.nodup_cons] at hn
      refine escL_esc b rest hb R (fun r hr => h6 r (by simp [hr])) hn.2 ?_
      rcases List.mem_cons.1 hm with rfl | hm
      · exact absurd rfl hc
      · exact hm
theorem turn_esc {x : Bool} {a : Row} {R : List Row} (hC : Cond x a R) (hx : x = true) (b h : Row) (hb : b ∈ a :: R) (hb0 : b.1 ≠ 0) (rest : List UInt8) : turnS (ba ((sp (3 * b.1 + 2)).data.toList ++ rest)) (a :: R) h = (b, true) := by
  have h6 := hC.x6 hx
  unfold turnS
  have := pre_esc b.1 0 (h6 b hb) (by omega) rest
  rw [show 3 * 0 + 2 = 2 from rfl] at this
  rw [this, if_neg (by simp; omega), escL_esc b rest (h6 b hb) _ h6 hC.nd hb]
theorem turn_in {s : ByteArray} {R : List Row} {h : Row} (hm : h ∈ R) : (turnS s R h).1 ∈ R := by
  have hl : ∀ (R : List Row) (r : Row), escL s R = some r → r ∈ R := by
    intro R
    induction R with
    | nil => intro r h; simp [escL] at h
    | cons c R ih =>
      intro r h
      rw [escL] at h
      split at h
      · cases h; simp
      · exact List.mem_cons_of_mem _ (ih r h)
  unfold turnS
  split
  · exact hm
  · cases he : escL s R with
    | none => exact hm
    | some r => exact hl R r he

theorem byte_nat (k : Nat) (r : Int) : ((byteOf k r : Int).toNat.toUInt8).toNat = byteOf k r := by
  have := byte_lt k r
  simp
  omega
theorem nat_byte {b : Nat} (h : b < 256) : ((b : Int).toNat.toUInt8).toNat = b := by
  simp
  omega

/-- The byte of a rune of the repertoire that holds is read as it. -/
theorem rd_byte (x : Bool) (kc ke : ByteArray) (a : Row) (R : List Row) (f : Nat) (h : Row) (r : Int) (l : List UInt8) (h6 : a.1 ≠ 6) (hk : h.1 < 7) (hb : byteOf h.1 r ≠ 0) :
    rdO x kc ke a R (f + 1) ((byteOf h.1 r : Int).toNat.toUInt8 :: l) h = (rdO x kc ke a R f l h).map (Lib.encodeRuneZ r ++ ·) := by
  obtain ⟨d, h1, h2, h3, h4⟩ := byteOf_at hb
  have hn := byte_nat h.1 r
  have hu : (a.1 == 6) = false := by simpa using h6
  have hhd : headS (a.1 == 6) kc h (byteOf h.1 r) (ba ((byteOf h.1 r : Int).toNat.toUInt8 :: l)) = (mean h.1 d, 1) := by
    unfold headS
    rw [if_neg (by rw [plain_hi (by omega)]; decide), hu, if_neg (by decide), if_pos (by rw [h4, Nat.add_sub_cancel_left]; exact ⟨by omega, h2⟩), h4, Nat.add_sub_cancel_left]
  rw [rdO, hn, if_neg (by simp; omega), hhd, if_neg (by simp)]
  simp only
  have hm := mean_high ⟨h.1, hk⟩ ⟨d, h1⟩
  simp only at hm
  rw [hasR_far ke (by omega), if_neg (by simp), ← h3]
  rfl
end Go.Proofs.YtegfgbcimlacbaaGreatDoor

/-
  DERIVED. There and back.
-/
namespace Go.Proofs.YtegfgbcimlacbaaGreatDoor
open Go Go.Proofs Go.RowKit

/-- Whose plain runes are no escape. -/
def NoEsc (kc : ByteArray) : Prop := plainR kc 27 = false
theorem kd_esc : ∀ k : Fin 6, NoEsc (kdS k.val) := by unfold NoEsc; decide +kernel

theorem hi_of {a : Row} {R : List Row} {kc : ByteArray} {r : Nat} (hC : ∀ b ∈ a :: R, b.1 < 7) (hp : ¬ plainR kc (r : Int) = true) (hg : Gd kc a R r) : 160 ≤ r ∧ asc (r : Int) = false ∧ hasS a R (r : Int) = true := by
  have hasc : asc (r : Int) = false := by
    cases h : asc (r : Int) with
    | false => rfl
    | true => exact absurd (by unfold plainR; rw [h]; rfl) hp
  have hh : hasS a R (r : Int) = true := by
    rcases hg with h | h
    · exact absurd h hp
    · exact h.1
  refine ⟨?_, hasc, hh⟩
  by_cases h6 : a.1 = 6
  · unfold hasS at hh
    rw [hasc, h6] at hh
    simp [wid] at hh
    omega
  · obtain ⟨b, hb, -, hb0⟩ := hasS_first h6 hasc hh
    obtain ⟨d, h1, h2, h3, -⟩ := byteOf_at hb0
    have := mean_high ⟨b.1, hC b hb⟩ ⟨d, h1⟩
    simp only at this
    omega

theorem zb_escZ (b : Row) (r : Int) : zb (escZ b r) = (sp (3 * b.1 + 2)).data.toList ++ [(byteOf b.1 r : Int).toNat.toUInt8] := by
  unfold escZ
  rw [zb_app]
  have := zb_tz (sp (3 * b.1 + 2)).data.toList
  unfold tz at this
  rw [this]
  rfl

theorem uHead_enc {r : Nat} (hv : Val r) (h0 : 160 ≤ r) (rest : List UInt8) : uHead (ba (zb (Lib.encodeRuneZ (r : Int)) ++ rest)) = (r, (Lib.encodeRuneZ (r : Int)).length) := by
  have hz := tz_zb (Lib.encodeRuneZ_byte (r : Int))
  have hl := (Lib.encodeRuneZ_length (r : Int)).1
  have hd : Utf8.decode (ba (zb (Lib.encodeRuneZ (r : Int)) ++ rest)) 0 = (r, (Lib.encodeRuneZ (r : Int)).length) := by
    refine dec_enc (rest := tz rest) hv ?_
    rw [List.drop_zero]
    have : (ba (zb (Lib.encodeRuneZ (r : Int)) ++ rest)).data.toList = zb (Lib.encodeRuneZ (r : Int)) ++ rest := by simp [ba]
    rw [this, tz_app, hz]
  have hg : Lib.decodeGo (ba (zb (Lib.encodeRuneZ (r : Int)) ++ rest)) = (r, (Lib.encodeRuneZ (r : Int)).length) := by
    unfold Lib.decodeGo
    rw [if_neg (by rw [ba_size, List.length_append, zb_len]; omega), hd]
  unfold uHead
  rw [hg]
  have h2 : 2 ≤ (Lib.encodeRuneZ (r : Int)).length := by
    unfold Lib.encodeRuneZ
    rw [if_neg (by omega)]
    repeat' split
    all_goals simp
  have hw : wid (r : Int) = true := by
    unfold Val at hv
    simp [wid]
    omega
  simp only
  rw [hw]
  simp
  omega

/-- What is written is read. -/
theorem rd_wr (x : Bool) (kc ke : ByteArray) (a : Row) (R : List Row) (hC : Cond x a R) (hke : NoEsc kc) : ∀ (rs : List Nat) (f : Nat) (h : Row), (∀ r ∈ rs, Gd kc a R r) → h ∈ a :: R → (zb (wrRs (Pz a R) kc ke a h rs)).length ≤ f →
    rdO x kc ke a R f (zb (wrRs (Pz a R) kc ke a h rs)) h = some (utf rs)
  | [], f, h, _, _, _ => by
    rw [wrRs]
    show rdO x kc ke a R f [] h = some []
    cases f <;> simp [rdO]
  | r :: rs, f, h, hg, hm, hf => by
    have ih := fun f' h' hm' hf' => rd_wr x kc ke a R hC hke rs f' h' (fun r' hr' => hg r' (by simp [hr'])) hm' hf'
    rw [wrRs] at hf ⊢
    by_cases hp : plainR kc (r : Int) = true
    · rw [if_pos hp] at hf ⊢
      have hlo := plain_lo hp
      have hcons : ∀ L, zb ((r : Int) :: L) = (r : Int).toNat.toUInt8 :: zb L := fun L => rfl
      rw [hcons] at hf ⊢
      rw [List.length_cons] at hf
      obtain ⟨f, rfl⟩ : ∃ g, f = g + 1 := ⟨f - 1, by omega⟩
      have hn : ((r : Int).toNat.toUInt8).toNat = r := nat_byte (by omega)
      have h27 : r ≠ 27 := by
        rintro rfl
        have h2 : plainR kc ((27 : Nat) : Int) = false := hke
        rw [h2] at hp
        cases hp
      have hhd : ∀ s, headS (a.1 == 6) kc h r s = (r, 1) := fun s => by unfold headS; rw [if_pos hp]
      rw [rdO, hn, if_neg (by simp [h27]), hhd, if_neg (by simp)]
      simp only
      rw [List.drop_one, List.tail_cons, ih f _ (by split; exact List.mem_cons_self; exact hm) (by omega)]
      rfl
    · rw [if_neg hp] at hf ⊢
      obtain ⟨h160, hasc, hh⟩ := hi_of hC.n7 hp (hg r (by simp))
      have hv := (hg r (by simp)).val
      by_cases h6 : a.1 = 6
      · have hP : Pz a R h (r : Int) = (Lib.encodeRuneZ (r : Int), h) := by unfold Pz; rw [if_pos h6]
        rw [hP] at hf ⊢
        simp only at hf ⊢
        rw [zb_app] at hf ⊢
        have hxf : x = false := by
          cases x with
          | false => rfl
          | true => have := hC.x6 rfl a (by simp); omega
        have hu := uHead_enc hv h160 (zb (wrRs (Pz a R) kc ke a h rs))
        obtain ⟨z, l, hz⟩ := enc_ne (r : Int)
        have hzb := Lib.encodeRuneZ_byte (r : Int) z (by rw [hz]; simp)
        have hzhi : 128 ≤ z := by
          unfold Lib.encodeRuneZ at hz
          rw [if_neg (by omega)] at hz
          split at hz
          · simp at hz; omega
          · split at hz
            · simp at hz; omega
            · split at hz
              · simp at hz; omega
              · simp at hz; omega
        have hlen := (Lib.encodeRuneZ_length (r : Int)).1
        have hcons : zb (Lib.encodeRuneZ (r : Int)) = z.toNat.toUInt8 :: zb l := by rw [hz]; rfl
        rw [List.length_append, zb_len] at hf
        obtain ⟨f, rfl⟩ : ∃ g, f = g + 1 := ⟨f - 1, by omega⟩
        have hn : (z.toNat.toUInt8).toNat = z.toNat := by simp; omega
        have hhd : headS (a.1 == 6) kc h z.toNat (ba (zb (Lib.encodeRuneZ (r : Int)) ++ zb (wrRs (Pz a R) kc ke a h rs))) = (r, (Lib.encodeRuneZ (r : Int)).length) := by
          unfold headS
          rw [if_neg (by rw [plain_hi (by omega)]; decide), if_pos (by simpa using h6), hu]
        rw [hcons, List.cons_append, rdO, hn, if_neg (by rw [hxf]; simp), ← List.cons_append, ← hcons, hhd, if_neg (by simp only; omega)]
        simp only
        rw [hasR_far ke (by omega), if_neg (by decide), List.drop_left' (by rw [zb_len]), ih f h hm (by omega)]
        rfl
      · by_cases hb : byteOf h.1 (r : Int) ≠ 0
        · have hP : Pz a R h (r : Int) = ([(byteOf h.1 (r : Int) : Int)], h) := by unfold Pz; rw [if_neg h6, if_pos hb]
          rw [hP] at hf ⊢
          simp only at hf ⊢
          rw [zb_app] at hf ⊢
          have hcons : ∀ L, zb [(byteOf h.1 (r : Int) : Int)] ++ L = (byteOf h.1 (r : Int) : Int).toNat.toUInt8 :: L := fun L => rfl
          rw [hcons] at hf ⊢
          rw [List.length_cons] at hf
          obtain ⟨f, rfl⟩ : ∃ g, f = g + 1 := ⟨f - 1, by omega⟩
          rw [rd_byte x kc ke a R f h (r : Int) _ h6 (hC.n7 h hm) hb, ih f h hm (by omega)]
          rfl
        · have hb0 : byteOf h.1 (r : Int) = 0 := by omega
          obtain ⟨b, hbm, hfd, hbb⟩ := hasS_first h6 hasc hh
          have hP : Pz a R h (r : Int) = (escZ b (r : Int), b) := by unfold Pz; rw [if_neg h6, if_neg hb, hfd]
          have hx : x = true := by
            cases x with
            | true => rfl
            | false =>
              have hR := hC.x0 rfl
              rw [hR] at hm hbm
              rw [List.mem_singleton] at hm hbm
              subst hm
              subst hbm
              exact absurd hb0 hbb
          have hbn : b.1 ≠ 0 := by
            intro e
            rw [e] at hbb
            obtain ⟨d, h1, h2, -, -⟩ := byteOf_at hbb
            exact h2 rfl
          have hb6 := hC.x6 hx b hbm
          rw [hP] at hf ⊢
          simp only at hf ⊢
          rw [zb_app, zb_escZ, List.append_assoc] at hf ⊢
          obtain ⟨c, d, hE⟩ := esc_hd ⟨b.1, hb6⟩
          simp only at hE
          have htn := turn_esc hC hx b h hbm hbn ([(byteOf b.1 (r : Int) : Int).toNat.toUInt8] ++ zb (wrRs (Pz a R) kc ke a b rs))
          rw [hE] at hf htn ⊢
          simp only [List.cons_append, List.nil_append, List.length_cons] at hf htn ⊢
          obtain ⟨f, rfl⟩ : ∃ g, f = g + 1 + 1 := ⟨f - 2, by omega⟩
          rw [rdO, if_pos (by rw [hx]; rfl), htn, if_pos rfl]
          simp only [List.drop_succ_cons, List.drop_zero]
          rw [rd_byte x kc ke a R f b (r : Int) _ h6 (hC.n7 b hbm) hbb, ih f b hbm (by omega)]
          rfl

/-- What is read may be written; without code extensions as the same bytes. -/
theorem wr_rd (x : Bool) (kc ke : ByteArray) (a : Row) (R : List Row) (hC : Cond x a R) : ∀ (f : Nat) (l : List UInt8) (h : Row) (o : List Int), l.length ≤ f → h ∈ a :: R → rdO x kc ke a R f l h = some o →
    ∃ rs : List Nat, (∀ r ∈ rs, Gd kc a R r) ∧ o = utf rs ∧ (x = false → tz l = wrRs (Pz a R) kc ke a a rs)
  | 0, l, h, o, hf, hm, hr => by
    have : l = [] := List.eq_nil_of_length_eq_zero (by omega)
    subst this
    rw [rdO, if_pos rfl] at hr
    cases hr
    exact ⟨[], by simp, rfl, fun _ => rfl⟩
  | f + 1, [], h, o, hf, hm, hr => by
    rw [rdO] at hr
    cases hr
    exact ⟨[], by simp, rfl, fun _ => rfl⟩
  | f + 1, b :: l, h, o, hf, hm, hr => by
    rw [List.length_cons] at hf
    rw [rdO] at hr
    have hone : x = false → h = a := fun hx => by
      have hR := hC.x0 hx
      rw [hR, List.mem_singleton] at hm
      exact hm
    by_cases c1 : (x && decide (b.toNat = 27)) = true
    · rw [if_pos c1] at hr
      have hx : x = true := by simp at c1; exact c1.1
      by_cases c2 : (turnS (ba (b :: l)) (a :: R) h).2 = true
      · rw [if_pos c2] at hr
        obtain ⟨rs, hg, ho, -⟩ := wr_rd x kc ke a R hC f _ _ o (by rw [List.length_drop, List.length_cons]; omega) (turn_in hm) hr
        exact ⟨rs, hg, ho, fun e => by rw [hx] at e; cases e⟩
      · rw [if_neg c2] at hr; cases hr
    · rw [if_neg c1] at hr
      by_cases hp : plainR kc (b.toNat : Int) = true
      · have hhd : headS (a.1 == 6) kc h b.toNat (ba (b :: l)) = (b.toNat, 1) := by unfold headS; rw [if_pos hp]
        rw [hhd, if_neg (by simp)] at hr
        simp only [List.drop_one, List.tail_cons] at hr
        obtain ⟨o', ho', rfl⟩ := Option.map_eq_some_iff.1 hr
        obtain ⟨rs, hg, ho, hw⟩ := wr_rd x kc ke a R hC f l _ o' (by omega) (by split; exact List.mem_cons_self; exact hm) ho'
        refine ⟨b.toNat :: rs, ?_, by rw [ho]; rfl, fun hx => ?_⟩
        · intro r hr'
          rcases List.mem_cons.1 hr' with rfl | hr'
          · exact .inl hp
          · exact hg r hr'
        · have : tz (b :: l) = (b.toNat : Int) :: tz l := rfl
          rw [this, hw hx, wrRs, if_pos hp]
          have : (if hasR ke (b.toNat : Int) = true then a else a) = a := by split <;> rfl
          rw [this]
      · by_cases h6 : a.1 = 6
        · have hhd : headS (a.1 == 6) kc h b.toNat (ba (b :: l)) = uHead (ba (b :: l)) := by unfold headS; rw [if_neg hp, if_pos (by simpa using h6)]
          rw [hhd] at hr
          by_cases c2 : (uHead (ba (b :: l))).2 = 0
          · rw [if_pos c2] at hr; cases hr
          · rw [if_neg c2] at hr
            have hz : 0 < (ba (b :: l)).size := by rw [ba_size]; simp
            have hgo : Lib.decodeGo (ba (b :: l)) = Utf8.decode (ba (b :: l)) 0 := by unfold Lib.decodeGo; rw [if_neg (by omega)]
            have hen := enc_dec hz
            have hba : (ba (b :: l)).data.toList = b :: l := by simp [ba]
            rw [hba, List.drop_zero, Nat.zero_add] at hen
            unfold uHead at hr c2
            rw [hgo] at hr c2
            generalize Utf8.decode (ba (b :: l)) 0 = D at *
            obtain ⟨r, n⟩ := D
            simp only at hr c2 hen
            by_cases c3 : (decide (n < 2) || !wid (r : Int)) = true
            · rw [if_pos c3] at c2; exact absurd rfl c2
            · rw [if_neg c3] at hr
              simp only at hr
              simp only [Bool.or_eq_true, decide_eq_true_eq, Bool.not_eq_true', not_or, Bool.not_eq_false] at c3
              obtain ⟨hn2, hw⟩ := c3
              rcases hen with ⟨_, h1⟩ | ⟨hv, hn, ht⟩
              · omega
              · have hr160 : 160 ≤ r := by simp [wid] at hw; omega
                rw [hasR_far ke (by omega), if_neg (by decide)] at hr
                obtain ⟨o', ho', rfl⟩ := Option.map_eq_some_iff.1 hr
                obtain ⟨rs, hg, ho, hwr⟩ := wr_rd x kc ke a R hC f _ h o' (by rw [List.length_drop, List.length_cons]; omega) hm ho'
                have hhas : hasS a R (r : Int) = true := by
                  unfold hasS
                  rw [if_pos (by simpa using h6), hw, Bool.or_true]
                refine ⟨r :: rs, ?_, by rw [ho]; rfl, fun hx => ?_⟩
                · intro r' hr'
                  rcases List.mem_cons.1 hr' with rfl | hr'
                  · exact .inr ⟨hhas, hv⟩
                  · exact hg r' hr'
                · rw [ht, hwr hx, wrRs, if_neg (by rw [plain_hi (by omega)]; decide)]
                  have hP : Pz a R a (r : Int) = (Lib.encodeRuneZ (r : Int), a) := by unfold Pz; rw [if_pos h6]
                  rw [hP]
        · have hu : (a.1 == 6) = false := by simpa using h6
          by_cases c3 : 160 ≤ b.toNat ∧ mean h.1 (b.toNat - 160) ≠ 0
          · have hhd : headS (a.1 == 6) kc h b.toNat (ba (b :: l)) = (mean h.1 (b.toNat - 160), 1) := by unfold headS; rw [if_neg hp, hu, if_neg (by decide), if_pos c3]
            rw [hhd, if_neg (by simp)] at hr
            have hb := b.toNat_lt
            have hbm := byteOf_mean (hC.n7 h hm) (show b.toNat - 160 < 96 by omega) c3.2
            have hmh := mean_high ⟨h.1, hC.n7 h hm⟩ ⟨b.toNat - 160, by omega⟩
            have hmv := mean_val ⟨h.1, hC.n7 h hm⟩ ⟨b.toNat - 160, by omega⟩
            simp only at hmh hmv
            simp only [List.drop_one, List.tail_cons] at hr
            generalize hr0 : mean h.1 (b.toNat - 160) = r at *
            rw [hasR_far ke (by omega), if_neg (by decide)] at hr
            obtain ⟨o', ho', rfl⟩ := Option.map_eq_some_iff.1 hr
            obtain ⟨rs, hg, ho, hwr⟩ := wr_rd x kc ke a R hC f l h o' (by omega) hm ho'
            have hhas : hasS a R (r : Int) = true := by
              unfold hasS
              rw [hu]
              have : firstB (r : Int) (a :: R) ≠ 0 := (firstB_iff _ _).2 ⟨h, hm, by omega⟩
              simp [this]
            refine ⟨r :: rs, ?_, by rw [ho]; rfl, fun hx => ?_⟩
            · intro r' hr'
              rcases List.mem_cons.1 hr' with rfl | hr'
              · exact .inr ⟨hhas, .inl (by omega)⟩
              · exact hg r' hr'
            · obtain rfl := hone hx
              have : tz (b :: l) = (b.toNat : Int) :: tz l := rfl
              rw [this, hwr hx, wrRs, if_neg (by rw [plain_hi (by omega)]; decide)]
              have hP : Pz h R h (r : Int) = ([(byteOf h.1 (r : Int) : Int)], h) := by unfold Pz; rw [if_neg h6, if_pos (by rw [hbm]; omega)]
              have hbe : ((160 + (b.toNat - 160) : Nat) : Int) = (b.toNat : Int) := by omega
              rw [hP, hbm, hbe]
              rfl
          · have hhd : headS (a.1 == 6) kc h b.toNat (ba (b :: l)) = (0, 0) := by unfold headS; rw [if_neg hp, hu, if_neg (by decide), if_neg c3]
            rw [hhd, if_pos rfl] at hr
            cases hr
end Go.Proofs.YtegfgbcimlacbaaGreatDoor

/-
  DERIVED. There and back, of Encode and Decode.
-/
namespace Go.Proofs.YtegfgbcimlacbaaGreatDoor
open Go Go.Proofs Go.RowKit

theorem bsZ_list (o : List Int) : (bsZ o).data.toList = zb o := by simp [bsZ, zb]
theorem rd_ok {x : Bool} {kc ke : ByteArray} {a : Row} {R : List Row} {s : ByteArray} {o : List Int} : rdS x kc ke a R s s.size 0 a [] = .ok o ↔ rdO x kc ke a R s.size s.data.toList a = some o := by
  have h := rdS_rdO x kc ke a R s s.size 0 a [] (by omega)
  rw [List.drop_zero] at h
  have e : (rdO x kc ke a R s.size s.data.toList a).map ([] ++ ·) = rdO x kc ke a R s.size s.data.toList a := by
    cases rdO x kc ke a R s.size s.data.toList a <;> rfl
  rw [e] at h
  rw [← h]
  cases rdS x kc ke a R s s.size 0 a [] with
  | ok o' => simp [okO]
  | error e => simp [okO]

theorem dcEnd_ok {F : Except (Nat × Int) (List Int)} {o : List Int} : dcEnd F = .ok o ↔ F = .ok o ∧ o.length ≤ 65534 := by
  cases F with
  | error e => simp [dcEnd]
  | ok o' =>
    simp only [dcEnd]
    split
    · constructor
      · intro h; cases h
      · rintro ⟨h, h2⟩; cases h; omega
    · constructor
      · intro h; cases h; exact ⟨rfl, by omega⟩
      · rintro ⟨h, h2⟩; exact h
theorem dcS_ok {x : Bool} {a : Row} {R : List Row} {k : Int} {s : ByteArray} {o : List Int} : dcS x a R k s = .ok o ↔ (∃ j : Nat, j < 3 ∧ k = (j : Int) ∧ rdO x (kdS (2 * j)) (kdS (2 * j + 1)) a R s.size s.data.toList a = some o) ∧ s.size ≤ 65534 ∧ o.length ≤ 65534 := by
  unfold dcS
  by_cases hk : k < 0 ∨ 3 ≤ k
  · rw [if_pos hk]
    constructor
    · intro h; cases h
    · rintro ⟨⟨j, hj, rfl, _⟩, _⟩; omega
  · rw [if_neg hk]
    obtain ⟨j, rfl⟩ : ∃ j : Nat, k = (j : Int) := ⟨k.toNat, by omega⟩
    rw [Int.toNat_natCast]
    by_cases hs : 65534 < s.size
    · rw [if_pos hs]
      constructor
      · intro h; cases h
      · rintro ⟨_, h, _⟩; omega
    · rw [if_neg hs, dcEnd_ok, rd_ok]
      constructor
      · rintro ⟨h1, h2⟩; exact ⟨⟨j, by omega, rfl, h1⟩, by omega, h2⟩
      · rintro ⟨⟨j', _, h1, h2⟩, _, h3⟩
        obtain rfl : j = j' := by omega
        exact ⟨h2, h3⟩
theorem enS_ok {P : Row → Int → List Int × Row} {a : Row} {R : List Row} {k : Int} {s : ByteArray} {o : List Int} : enS P a R k s = .ok o ↔ (∃ j : Nat, j < 3 ∧ k = (j : Int) ∧ wrS P (kdS (2 * j)) (kdS (2 * j + 1)) a R s s.size 0 a [] = .ok o) ∧ s.size ≤ 65534 ∧ o.length ≤ 65534 := by
  unfold enS
  by_cases hk : k < 0 ∨ 3 ≤ k
  · rw [if_pos hk]
    constructor
    · intro h; cases h
    · rintro ⟨⟨j, hj, rfl, _⟩, _⟩; omega
  · rw [if_neg hk]
    obtain ⟨j, rfl⟩ : ∃ j : Nat, k = (j : Int) := ⟨k.toNat, by omega⟩
    rw [Int.toNat_natCast]
    by_cases hs : 65534 < s.size
    · rw [if_pos hs]
      constructor
      · intro h; cases h
      · rintro ⟨_, h, _⟩; omega
    · rw [if_neg hs, dcEnd_ok]
      constructor
      · rintro ⟨h1, h2⟩; exact ⟨⟨j, by omega, rfl, h1⟩, by omega, h2⟩
      · rintro ⟨⟨j', _, h1, h2⟩, _, h3⟩
        obtain rfl : j = j' := by omega
        exact ⟨h2, h3⟩

theorem utf_len (rs : List Nat) : rs.length ≤ (utf rs).length := by
  induction rs with
  | nil => simp
  | cons r rs ih =>
    have : utf (r :: rs) = Lib.encodeRuneZ (r : Int) ++ utf rs := rfl
    have h1 := (Lib.encodeRuneZ_length (r : Int)).1
    rw [this, List.length_append, List.length_cons]
    omega
theorem utf_byte (rs : List Nat) : ∀ z ∈ utf rs, 0 ≤ z ∧ z < 256 := by
  intro z hz
  unfold utf at hz
  obtain ⟨r, -, hr⟩ := List.mem_flatMap.1 hz
  exact Lib.encodeRuneZ_byte _ z hr

theorem Pz_facts {x : Bool} {a : Row} {R : List Row} (hC : Cond x a R) {h : Row} (hm : h ∈ a :: R) {r : Int} (hasc : asc r = false) (hh : hasS a R r = true) : (Pz a R h r).2 ∈ a :: R ∧ 0 < (Pz a R h r).1.length ∧ (Pz a R h r).1.length ≤ 4 ∧ (∀ z ∈ (Pz a R h r).1, 0 ≤ z ∧ z < 256) := by
  unfold Pz
  by_cases h6 : a.1 = 6
  · rw [if_pos h6]
    have := Lib.encodeRuneZ_length r
    exact ⟨hm, this.1, this.2, Lib.encodeRuneZ_byte r⟩
  · rw [if_neg h6]
    by_cases hb : byteOf h.1 r ≠ 0
    · rw [if_pos hb]
      refine ⟨hm, by simp, by simp, ?_⟩
      intro z hz
      have := byte_lt h.1 r
      simp at hz
      omega
    · rw [if_neg hb]
      obtain ⟨b, hbm, hfd, hbb⟩ := hasS_first h6 hasc hh
      rw [hfd]
      have hb6 : b.1 < 6 := by
        rcases Nat.lt_or_ge b.1 6 with h | h
        · exact h
        · have h7 := hC.n7 b hbm
          obtain ⟨d, _, h2, _, _⟩ := byteOf_at hbb
          have : b.1 = 6 := by omega
          rw [this] at h2
          exact absurd rfl h2
      have hsz := esc_size ⟨b.1, hb6⟩
      simp only at hsz
      refine ⟨hbm, ?_, ?_, escZ_bytes b r⟩
      · unfold escZ; simp
      · unfold escZ
        rw [List.length_append, List.length_map]
        simp
        omega
theorem wrRs_len {x : Bool} {kc ke : ByteArray} {a : Row} {R : List Row} (hC : Cond x a R) : ∀ (rs : List Nat) (h : Row), (∀ r ∈ rs, Gd kc a R r) → h ∈ a :: R → (wrRs (Pz a R) kc ke a h rs).length ≤ 4 * rs.length ∧ ∀ z ∈ wrRs (Pz a R) kc ke a h rs, 0 ≤ z ∧ z < 256
  | [], _, _, _ => by simp [wrRs]
  | r :: rs, h, hg, hm => by
    rw [wrRs]
    by_cases hp : plainR kc (r : Int) = true
    · rw [if_pos hp]
      obtain ⟨h1, h2⟩ := wrRs_len (ke := ke) hC rs (if hasR ke (r : Int) = true then a else h) (fun r' hr' => hg r' (by simp [hr'])) (by split; exact List.mem_cons_self; exact hm)
      refine ⟨by rw [List.length_cons, List.length_cons]; omega, ?_⟩
      intro z hz
      have := plain_lo hp
      rcases List.mem_cons.1 hz with rfl | hz
      · omega
      · exact h2 z hz
    · rw [if_neg hp]
      obtain ⟨_, hasc, hh⟩ := hi_of hC.n7 hp (hg r (by simp))
      obtain ⟨p1, p2, p3, p4⟩ := Pz_facts hC hm hasc hh
      obtain ⟨h1, h2⟩ := wrRs_len (ke := ke) hC rs (Pz a R h (r : Int)).2 (fun r' hr' => hg r' (by simp [hr'])) p1
      refine ⟨by rw [List.length_append, List.length_cons]; omega, ?_⟩
      intro z hz
      rcases List.mem_append.1 hz with hz | hz
      · exact p4 z hz
      · exact h2 z hz

/-- What Encode writes Decode reads. -/
theorem en_dc {x : Bool} {a : Row} {R : List Row} (hC : Cond x a R) {k : Int} {s : ByteArray} {o : List Int} (h : enS (Pz a R) a R k s = .ok o) : dcS x a R k (bsZ o) = .ok (tz s.data.toList) := by
  obtain ⟨⟨j, hj, rfl, hw⟩, hs, hl⟩ := enS_ok.1 h
  obtain ⟨rs, hg, ht, ho⟩ := wr_runes (Pz a R) _ _ a R s s.size 0 a [] o (by omega) hw
  rw [List.nil_append] at ho
  rw [List.drop_zero] at ht
  refine dcS_ok.2 ⟨⟨j, hj, rfl, ?_⟩, by rw [show (bsZ o).size = o.length by simp [bsZ, ByteArray.size]]; omega, by rw [tz_len, data_len]; omega⟩
  rw [bsZ_list, ht, ho]
  exact rd_wr x _ _ a R hC (kd_esc ⟨2 * j, by omega⟩) rs _ a hg (by simp) (by rw [zb_len]; simp [bsZ, ByteArray.size])

/-- What Decode reads Encode writes; without code extensions as the same bytes. -/
theorem dc_en {x : Bool} {a : Row} {R : List Row} (hC : Cond x a R) {k : Int} {s : ByteArray} {t : List Int} (h : dcS x a R k s = .ok t) :
    tz (bsZ t).data.toList = t ∧ (x = false → enS (Pz a R) a R k (bsZ t) = .ok (tz s.data.toList)) ∧ (t.length ≤ 16000 → ∃ c, enS (Pz a R) a R k (bsZ t) = .ok c) := by
  obtain ⟨⟨j, hj, rfl, hr⟩, hs, hl⟩ := dcS_ok.1 h
  obtain ⟨rs, hg, rfl, hw⟩ := wr_rd x _ _ a R hC s.size s.data.toList a t (by rw [data_len]; omega) (by simp) hr
  have ht : tz (bsZ (utf rs)).data.toList = utf rs := by rw [bsZ_list, tz_zb (utf_byte rs)]
  have hsz : (bsZ (utf rs)).size = (utf rs).length := by simp [bsZ, ByteArray.size]
  have he := wr_text (Pz a R) (kdS (2 * j)) (kdS (2 * j + 1)) a R (bsZ (utf rs)) rs (bsZ (utf rs)).size 0 a [] (by omega) hg (by rw [List.drop_zero, ht])
  rw [List.nil_append] at he
  refine ⟨ht, fun hx => enS_ok.2 ⟨⟨j, hj, rfl, ?_⟩, by omega, by rw [tz_len, data_len]; omega⟩, fun h16 => ⟨_, enS_ok.2 ⟨⟨j, hj, rfl, he⟩, by omega, ?_⟩⟩⟩
  · rw [he, hw hx]
  · have h1 := (wrRs_len (kc := kdS (2 * j)) (ke := kdS (2 * j + 1)) hC rs a hg (by simp)).1
    have h2 := utf_len rs
    omega

/-- ASCII is itself in every set. -/
theorem ascii_both {x : Bool} {a : Row} {R : List Row} (hC : Cond x a R) {j : Nat} (hj : j < 3) {s : ByteArray} (hs : s.size ≤ 65534) (ha : ∀ b ∈ s.data.toList, 32 ≤ b.toNat ∧ b.toNat ≤ 126) : enS (Pz a R) a R (j : Int) s = .ok (tz s.data.toList) ∧ dcS x a R (j : Int) s = .ok (tz s.data.toList) := by
  have hpl : ∀ kc : ByteArray, ∀ b ∈ s.data.toList, plainR kc (b.toNat : Int) = true := fun kc b hb => by
    have := ha b hb
    unfold plainR asc
    simp
    omega
  generalize hl : s.data.toList = l at *
  have hrs : utf (l.map fun b => b.toNat) = tz l := by
    have : ∀ m : List UInt8, (∀ b ∈ m, 32 ≤ b.toNat ∧ b.toNat ≤ 126) → utf (m.map fun b => b.toNat) = tz m := by
      intro m
      induction m with
      | nil => intro _; rfl
      | cons b m ih =>
        intro hm
        have hb := hm b (by simp)
        have : utf ((b :: m).map fun b => b.toNat) = Lib.encodeRuneZ (b.toNat : Int) ++ utf (m.map fun b => b.toNat) := rfl
        rw [this, ih (fun c hc => hm c (by simp [hc])), enc_low (by omega) (by omega)]
        rfl
    exact this l ha
  have hwl : ∀ (kc ke : ByteArray) (m : List UInt8) (h : Row), (∀ b ∈ m, plainR kc (b.toNat : Int) = true) → wrRs (Pz a R) kc ke a h (m.map fun b => b.toNat) = tz m := by
    intro kc ke m
    induction m with
    | nil => intro h _; rfl
    | cons b m ih =>
      intro h hm
      rw [List.map_cons, wrRs, if_pos (hm b (by simp)), ih _ (fun c hc => hm c (by simp [hc]))]
      rfl
  have hgd : ∀ kc : ByteArray, ∀ r ∈ l.map (fun b => b.toNat), Gd kc a R r := by
    intro kc r hr
    obtain ⟨b, hb, rfl⟩ := List.mem_map.1 hr
    exact .inl (hpl kc b hb)
  have hlen : l.length = s.size := by rw [← hl, data_len]
  have he := wr_text (Pz a R) (kdS (2 * j)) (kdS (2 * j + 1)) a R s (l.map fun b => b.toNat) s.size 0 a [] (by omega) (hgd _) (by rw [List.drop_zero, hl, hrs])
  rw [List.nil_append, hwl _ _ l a (hpl _)] at he
  refine ⟨enS_ok.2 ⟨⟨j, hj, rfl, he⟩, hs, by rw [tz_len]; omega⟩, dcS_ok.2 ⟨⟨j, hj, rfl, ?_⟩, hs, by rw [tz_len]; omega⟩⟩
  have hrd := rd_wr x (kdS (2 * j)) (kdS (2 * j + 1)) a R hC (kd_esc ⟨2 * j, by omega⟩) (l.map fun b => b.toNat) s.size a (hgd _) (by simp) (by rw [hwl _ _ l a (hpl _), zb_tz]; omega)
  rw [hwl _ _ l a (hpl _), zb_tz, hrs] at hrd
  rw [hl]
  exact hrd
end Go.Proofs.YtegfgbcimlacbaaGreatDoor
