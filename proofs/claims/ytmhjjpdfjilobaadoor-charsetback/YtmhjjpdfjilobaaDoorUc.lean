import Derived.Test.YtmhjjpdfjilobaaDoorUb
/-
  DERIVED. There and back.
-/
namespace Go.Proofs.YtmhjjpdfjilobaaDoor
open Go Go.Proofs Go.RowKit

/-- Whose plain runes are no escape. -/
def NoEsc (kc : ByteArray) : Prop := plainR kc 27 = false
theorem kd_esc : ∀ k : Fin 6, NoEsc (kdS k.val) := by unfold NoEsc; decide +kernel

theorem hi_of {a : Row} {R : List Row} {kc : ByteArray} {r : Nat} (hC : ∀ b ∈ a :: R, b.1 < 7) (hp : ¬ plainR kc (r : Int) = true) (hg : Gd kc a R r) : 160 ≤ r ∧ asc (r : Int) = false ∧ hasS a R (r : Int) = true := by
  have hasc : asc (r : Int) = false := by
    cases h : asc (r : Int) with
    | false => rfl
    | true => exact absurd (by unfold plainR; rw [h]; rfl) hp
  have hh : hasS a R (r : Int) = true := by
    rcases hg with h | h
    · exact absurd h hp
    · exact h.1
  refine ⟨?_, hasc, hh⟩
  by_cases h6 : a.1 = 6
  · unfold hasS at hh
    rw [hasc, h6] at hh
    simp [wid] at hh
    omega
  · obtain ⟨b, hb, -, hb0⟩ := hasS_first h6 hasc hh
    obtain ⟨d, h1, h2, h3, -⟩ := byteOf_at hb0
    have := mean_high ⟨b.1, hC b hb⟩ ⟨d, h1⟩
    simp only at this
    omega

theorem zb_escZ (b : Row) (r : Int) : zb (escZ b r) = (sp (3 * b.1 + 2)).data.toList ++ [(byteOf b.1 r : Int).toNat.toUInt8] := by
  unfold escZ
  rw [zb_app]
  have := zb_tz (sp (3 * b.1 + 2)).data.toList
  unfold tz at this
  rw [this]
  rfl

theorem uHead_enc {r : Nat} (hv : Val r) (h0 : 160 ≤ r) (rest : List UInt8) : uHead (ba (zb (Lib.encodeRuneZ (r : Int)) ++ rest)) = (r, (Lib.encodeRuneZ (r : Int)).length) := by
  have hz := tz_zb (Lib.encodeRuneZ_byte (r : Int))
  have hl := (Lib.encodeRuneZ_length (r : Int)).1
  have hd : Utf8.decode (ba (zb (Lib.encodeRuneZ (r : Int)) ++ rest)) 0 = (r, (Lib.encodeRuneZ (r : Int)).length) := by
    refine dec_enc (rest := tz rest) hv ?_
    rw [List.drop_zero]
    have : (ba (zb (Lib.encodeRuneZ (r : Int)) ++ rest)).data.toList = zb (Lib.encodeRuneZ (r : Int)) ++ rest := by simp [ba]
    rw [this, tz_app, hz]
  have hg : Lib.decodeGo (ba (zb (Lib.encodeRuneZ (r : Int)) ++ rest)) = (r, (Lib.encodeRuneZ (r : Int)).length) := by
    unfold Lib.decodeGo
    rw [if_neg (by rw [ba_size, List.length_append, zb_len]; omega), hd]
  unfold uHead
  rw [hg]
  have h2 : 2 ≤ (Lib.encodeRuneZ (r : Int)).length := by
    unfold Lib.encodeRuneZ
    rw [if_neg (by omega)]
    repeat' split
    all_goals simp
  have hw : wid (r : Int) = true := by
    unfold Val at hv
    simp [wid]
    omega
  simp only
  rw [hw]
  simp
  omega

/-- What is written is read. -/
theorem rd_wr (x : Bool) (kc ke : ByteArray) (a : Row) (R : List Row) (hC : Cond x a R) (hke : NoEsc kc) : ∀ (rs : List Nat) (f : Nat) (h : Row), (∀ r ∈ rs, Gd kc a R r) → h ∈ a :: R → (zb (wrRs (Pz a R) kc ke a h rs)).length ≤ f →
    rdO x kc ke a R f (zb (wrRs (Pz a R) kc ke a h rs)) h = some (utf rs)
  | [], f, h, _, _, _ => by
    rw [wrRs]
    show rdO x kc ke a R f [] h = some []
    cases f <;> simp [rdO]
  | r :: rs, f, h, hg, hm, hf => by
    have ih := fun f' h' hm' hf' => rd_wr x kc ke a R hC hke rs f' h' (fun r' hr' => hg r' (by simp [hr'])) hm' hf'
    rw [wrRs] at hf ⊢
    by_cases hp : plainR kc (r : Int) = true
    · rw [if_pos hp] at hf ⊢
      have hlo := plain_lo hp
      have hcons : ∀ L, zb ((r : Int) :: L) = (r : Int).toNat.toUInt8 :: zb L := fun L => rfl
      rw [hcons] at hf ⊢
      rw [List.length_cons] at hf
      obtain ⟨f, rfl⟩ : ∃ g, f = g + 1 := ⟨f - 1, by omega⟩
      have hn : ((r : Int).toNat.toUInt8).toNat = r := nat_byte (by omega)
      have h27 : r ≠ 27 := by
        rintro rfl
        have h2 : plainR kc ((27 : Nat) : Int) = false := hke
        rw [h2] at hp
        cases hp
      have hhd : ∀ s, headS (a.1 == 6) kc h r s = (r, 1) := fun s => by unfold headS; rw [if_pos hp]
      rw [rdO, hn, if_neg (by simp [h27]), hhd, if_neg (by simp)]
      simp only
      rw [List.drop_one, List.tail_cons, ih f _ (by split; exact List.mem_cons_self; exact hm) (by omega)]
      rfl
    · rw [if_neg hp] at hf ⊢
      obtain ⟨h160, hasc, hh⟩ := hi_of hC.n7 hp (hg r (by simp))
      have hv := (hg r (by simp)).val
      by_cases h6 : a.1 = 6
      · have hP : Pz a R h (r : Int) = (Lib.encodeRuneZ (r : Int), h) := by unfold Pz; rw [if_pos h6]
        rw [hP] at hf ⊢
        simp only at hf ⊢
        rw [zb_app] at hf ⊢
        have hxf : x = false := by
          cases x with
          | false => rfl
          | true => have := hC.x6 rfl a (by simp); omega
        have hu := uHead_enc hv h160 (zb (wrRs (Pz a R) kc ke a h rs))
        obtain ⟨z, l, hz⟩ := enc_ne (r : Int)
        have hzb := Lib.encodeRuneZ_byte (r : Int) z (by rw [hz]; simp)
        have hzhi : 128 ≤ z := by
          unfold Lib.encodeRuneZ at hz
          rw [if_neg (by omega)] at hz
          split at hz
          · simp at hz; omega
          · split at hz
            · simp at hz; omega
            · split at hz
              · simp at hz; omega
              · simp at hz; omega
        have hlen := (Lib.encodeRuneZ_length (r : Int)).1
        have hcons : zb (Lib.encodeRuneZ (r : Int)) = z.toNat.toUInt8 :: zb l := by rw [hz]; rfl
        rw [List.length_append, zb_len] at hf
        obtain ⟨f, rfl⟩ : ∃ g, f = g + 1 := ⟨f - 1, by omega⟩
        have hn : (z.toNat.toUInt8).toNat = z.toNat := by simp; omega
        have hhd : headS (a.1 == 6) kc h z.toNat (ba (zb (Lib.encodeRuneZ (r : Int)) ++ zb (wrRs (Pz a R) kc ke a h rs))) = (r, (Lib.encodeRuneZ (r : Int)).length) := by
          unfold headS
          rw [if_neg (by rw [plain_hi (by omega)]; decide), if_pos (by simpa using h6), hu]
        rw [hcons, List.cons_append, rdO, hn, if_neg (by rw [hxf]; simp), ← List.cons_append, ← hcons, hhd, if_neg (by simp only; omega)]
        simp only
        rw [hasR_far ke (by omega), if_neg (by decide), List.drop_left' (by rw [zb_len]), ih f h hm (by omega)]
        rfl
      · by_cases hb : byteOf h.1 (r : Int) ≠ 0
        · have hP : Pz a R h (r : Int) = ([(byteOf h.1 (r : Int) : Int)], h) := by unfold Pz; rw [if_neg h6, if_pos hb]
          rw [hP] at hf ⊢
          simp only at hf ⊢
          rw [zb_app] at hf ⊢
          have hcons : ∀ L, zb [(byteOf h.1 (r : Int) : Int)] ++ L = (byteOf h.1 (r : Int) : Int).toNat.toUInt8 :: L := fun L => rfl
          rw [hcons] at hf ⊢
          rw [List.length_cons] at hf
          obtain ⟨f, rfl⟩ : ∃ g, f = g + 1 := ⟨f - 1, by omega⟩
          rw [rd_byte x kc ke a R f h (r : Int) _ h6 (hC.n7 h hm) hb, ih f h hm (by omega)]
          rfl
        · have hb0 : byteOf h.1 (r : Int) = 0 := by omega
          obtain ⟨b, hbm, hfd, hbb⟩ := hasS_first h6 hasc hh
          have hP : Pz a R h (r : Int) = (escZ b (r : Int), b) := by unfold Pz; rw [if_neg h6, if_neg hb, hfd]
          have hx : x = true := by
            cases x with
            | true => rfl
            | false =>
              have hR := hC.x0 rfl
              rw [hR] at hm hbm
              rw [List.mem_singleton] at hm hbm
              subst hm
              subst hbm
              exact absurd hb0 hbb
          have hbn : b.1 ≠ 0 := by
            intro e
            rw [e] at hbb
            obtain ⟨d, h1, h2, -, -⟩ := byteOf_at hbb
            exact h2 rfl
          have hb6 := hC.x6 hx b hbm
          rw [hP] at hf ⊢
          simp only at hf ⊢
          rw [zb_app, zb_escZ, List.append_assoc] at hf ⊢
          obtain ⟨c, d, hE⟩ := esc_hd ⟨b.1, hb6⟩
          simp only at hE
          have htn := turn_esc hC hx b h hbm hbn ([(byteOf b.1 (r : Int) : Int).toNat.toUInt8] ++ zb (wrRs (Pz a R) kc ke a b rs))
          rw [hE] at hf htn ⊢
          simp only [List.cons_append, List.nil_append, List.length_cons] at hf htn ⊢
          obtain ⟨f, rfl⟩ : ∃ g, f = g + 1 + 1 := ⟨f - 2, by omega⟩
          rw [rdO, if_pos (by rw [hx]; rfl), htn, if_pos rfl]
          simp only [List.drop_succ_cons, List.drop_zero]
          rw [rd_byte x kc ke a R f b (r : Int) _ h6 (hC.n7 b hbm) hbb, ih f b hbm (by omega)]
          rfl

/-- What is read may be written; without code extensions as the same bytes. -/
theorem wr_rd (x : Bool) (kc ke : ByteArray) (a : Row) (R : List Row) (hC : Cond x a R) : ∀ (f : Nat) (l : List UInt8) (h : Row) (o : List Int), l.length ≤ f → h ∈ a :: R → rdO x kc ke a R f l h = some o →
    ∃ rs : List Nat, (∀ r ∈ rs, Gd kc a R r) ∧ o = utf rs ∧ (x = false → tz l = wrRs (Pz a R) kc ke a a rs)
  | 0, l, h, o, hf, hm, hr => by
    have : l = [] := List.eq_nil_of_length_eq_zero (by omega)
    subst this
    rw [rdO, if_pos rfl] at hr
    cases hr
    exact ⟨[], by simp, rfl, fun _ => rfl⟩
  | f + 1, [], h, o, hf, hm, hr => by
    rw [rdO] at hr
    cases hr
    exact ⟨[], by simp, rfl, fun _ => rfl⟩
  | f + 1, b :: l, h, o, hf, hm, hr => by
    rw [List.length_cons] at hf
    rw [rdO] at hr
    have hone : x = false → h = a := fun hx => by
      have hR := hC.x0 hx
      rw [hR, List.mem_singleton] at hm
      exact hm
    by_cases c1 : (x && decide (b.toNat = 27)) = true
    · rw [if_pos c1] at hr
      have hx : x = true := by simp at c1; exact c1.1
      by_cases c2 : (turnS (ba (b :: l)) (a :: R) h).2 = true
      · rw [if_pos c2] at hr
        obtain ⟨rs, hg, ho, -⟩ := wr_rd x kc ke a R hC f _ _ o (by rw [List.length_drop, List.length_cons]; omega) (turn_in hm) hr
        exact ⟨rs, hg, ho, fun e => by rw [hx] at e; cases e⟩
      · rw [if_neg c2] at hr; cases hr
    · rw [if_neg c1] at hr
      by_cases hp : plainR kc (b.toNat : Int) = true
      · have hhd : headS (a.1 == 6) kc h b.toNat (ba (b :: l)) = (b.toNat, 1) := by unfold headS; rw [if_pos hp]
        rw [hhd, if_neg (by simp)] at hr
        simp only [List.drop_one, List.tail_cons] at hr
        obtain ⟨o', ho', rfl⟩ := Option.map_eq_some_iff.1 hr
        obtain ⟨rs, hg, ho, hw⟩ := wr_rd x kc ke a R hC f l _ o' (by omega) (by split; exact List.mem_cons_self; exact hm) ho'
        refine ⟨b.toNat :: rs, ?_, by rw [ho]; rfl, fun hx => ?_⟩
        · intro r hr'
          rcases List.mem_cons.1 hr' with rfl | hr'
          · exact .inl hp
          · exact hg r hr'
        · have : tz (b :: l) = (b.toNat : Int) :: tz l := rfl
          rw [this, hw hx, wrRs, if_pos hp]
          have : (if hasR ke (b.toNat : Int) = true then a else a) = a := by split <;> rfl
          rw [this]
      · by_cases h6 : a.1 = 6
        · have hhd : headS (a.1 == 6) kc h b.toNat (ba (b :: l)) = uHead (ba (b :: l)) := by unfold headS; rw [if_neg hp, if_pos (by simpa using h6)]
          rw [hhd] at hr
          by_cases c2 : (uHead (ba (b :: l))).2 = 0
          · rw [if_pos c2] at hr; cases hr
          · rw [if_neg c2] at hr
            have hz : 0 < (ba (b :: l)).size := by rw [ba_size]; simp
            have hgo : Lib.decodeGo (ba (b :: l)) = Utf8.decode (ba (b :: l)) 0 := by unfold Lib.decodeGo; rw [if_neg (by omega)]
            have hen := enc_dec hz
            have hba : (ba (b :: l)).data.toList = b :: l := by simp [ba]
            rw [hba, List.drop_zero, Nat.zero_add] at hen
            unfold uHead at hr c2
            rw [hgo] at hr c2
            generalize Utf8.decode (ba (b :: l)) 0 = D at *
            obtain ⟨r, n⟩ := D
            simp only at hr c2 hen
            by_cases c3 : (decide (n < 2) || !wid (r : Int)) = true
            · rw [if_pos c3] at c2; exact absurd rfl c2
            · rw [if_neg c3] at hr
              simp only at hr
              simp only [Bool.or_eq_true, decide_eq_true_eq, Bool.not_eq_true', not_or, Bool.not_eq_false] at c3
              obtain ⟨hn2, hw⟩ := c3
              rcases hen with ⟨_, h1⟩ | ⟨hv, hn, ht⟩
              · omega
              · have hr160 : 160 ≤ r := by simp [wid] at hw; omega
                rw [hasR_far ke (by omega), if_neg (by decide)] at hr
                obtain ⟨o', ho', rfl⟩ := Option.map_eq_some_iff.1 hr
                obtain ⟨rs, hg, ho, hwr⟩ := wr_rd x kc ke a R hC f _ h o' (by rw [List.length_drop, List.length_cons]; omega) hm ho'
                have hhas : hasS a R (r : Int) = true := by
                  unfold hasS
                  rw [if_pos (by simpa using h6), hw, Bool.or_true]
                refine ⟨r :: rs, ?_, by rw [ho]; rfl, fun hx => ?_⟩
                · intro r' hr'
                  rcases List.mem_cons.1 hr' with rfl | hr'
                  · exact .inr ⟨hhas, hv⟩
                  · exact hg r' hr'
                · rw [ht, hwr hx, wrRs, if_neg (by rw [plain_hi (by omega)]; decide)]
                  have hP : Pz a R a (r : Int) = (Lib.encodeRuneZ (r : Int), a) := by unfold Pz; rw [if_pos h6]
                  rw [hP]
        · have hu : (a.1 == 6) = false := by simpa using h6
          by_cases c3 : 160 ≤ b.toNat ∧ mean h.1 (b.toNat - 160) ≠ 0
          · have hhd : headS (a.1 == 6) kc h b.toNat (ba (b :: l)) = (mean h.1 (b.toNat - 160), 1) := by unfold headS; rw [if_neg hp, hu, if_neg (by decide), if_pos c3]
            rw [hhd, if_neg (by simp)] at hr
            have hb := b.toNat_lt
            have hbm := byteOf_mean (hC.n7 h hm) (show b.toNat - 160 < 96 by omega) c3.2
            have hmh := mean_high ⟨h.1, hC.n7 h hm⟩ ⟨b.toNat - 160, by omega⟩
            have hmv := mean_val ⟨h.1, hC.n7 h hm⟩ ⟨b.toNat - 160, by omega⟩
            simp only at hmh hmv
            simp only [List.drop_one, List.tail_cons] at hr
            generalize hr0 : mean h.1 (b.toNat - 160) = r at *
            rw [hasR_far ke (by omega), if_neg (by decide)] at hr
            obtain ⟨o', ho', rfl⟩ := Option.map_eq_some_iff.1 hr
            obtain ⟨rs, hg, ho, hwr⟩ := wr_rd x kc ke a R hC f l h o' (by omega) hm ho'
            have hhas : hasS a R (r : Int) = true := by
              unfold hasS
              rw [hu]
              have : firstB (r : Int) (a :: R) ≠ 0 := (firstB_iff _ _).2 ⟨h, hm, by omega⟩
              simp [this]
            refine ⟨r :: rs, ?_, by rw [ho]; rfl, fun hx => ?_⟩
            · intro r' hr'
              rcases List.mem_cons.1 hr' with rfl | hr'
              · exact .inr ⟨hhas, .inl (by omega)⟩
              · exact hg r' hr'
            · obtain rfl := hone hx
              have : tz (b :: l) = (b.toNat : Int) :: tz l := rfl
              rw [this, hwr hx, wrRs, if_neg (by rw [plain_hi (by omega)]; decide)]
              have hP : Pz h R h (r : Int) = ([(byteOf h.1 (r : Int) : Int)], h) := by unfold Pz; rw [if_neg h6, if_pos (by rw [hbm]; omega)]
              have hbe : ((160 + (b.toNat - 160) : Nat) : Int) = (b.toNat : Int) := by omega
              rw [hP, hbm, hbe]
              rfl
          · have hhd : headS (a.1 == 6) kc h b.toNat (ba (b :: l)) = (0, 0) := by unfold headS; rw [if_neg hp, hu, if_neg (by decide), if_neg c3]
            rw [hhd, if_pos rfl] at hr
            cases hr
end Go.Proofs.YtmhjjpdfjilobaaDoor
