import Derived.Test.YtmhjjpdfjilobaaDoorUc
import Derived.Test.YtmhjjpdfjilobaaDoorTd
/-
  DERIVED. There and back, of Encode and Decode.
-/
namespace Go.Proofs.YtmhjjpdfjilobaaDoor
open Go Go.Proofs Go.RowKit

theorem bsZ_list (o : List Int) : (bsZ o).data.toList = zb o := by simp [bsZ, zb]
theorem rd_ok {x : Bool} {kc ke : ByteArray} {a : Row} {R : List Row} {s : ByteArray} {o : List Int} : rdS x kc ke a R s s.size 0 a [] = .ok o ↔ rdO x kc ke a R s.size s.data.toList a = some o := by
  have h := rdS_rdO x kc ke a R s s.size 0 a [] (by omega)
  rw [List.drop_zero] at h
  have e : (rdO x kc ke a R s.size s.data.toList a).map ([] ++ ·) = rdO x kc ke a R s.size s.data.toList a := by
    cases rdO x kc ke a R s.size s.data.toList a <;> rfl
  rw [e] at h
  rw [← h]
  cases rdS x kc ke a R s s.size 0 a [] with
  | ok o' => simp [okO]
  | error e => simp [okO]

theorem dcEnd_ok {F : Except (Nat × Int) (List Int)} {o : List Int} : dcEnd F = .ok o ↔ F = .ok o ∧ o.length ≤ 65534 := by
  cases F with
  | error e => simp [dcEnd]
  | ok o' =>
    simp only [dcEnd]
    split
    · constructor
      · intro h; cases h
      · rintro ⟨h, h2⟩; cases h; omega
    · constructor
      · intro h; cases h; exact ⟨rfl, by omega⟩
      · rintro ⟨h, h2⟩; exact h
theorem dcS_ok {x : Bool} {a : Row} {R : List Row} {k : Int} {s : ByteArray} {o : List Int} : dcS x a R k s = .ok o ↔ (∃ j : Nat, j < 3 ∧ k = (j : Int) ∧ rdO x (kdS (2 * j)) (kdS (2 * j + 1)) a R s.size s.data.toList a = some o) ∧ s.size ≤ 65534 ∧ o.length ≤ 65534 := by
  unfold dcS
  by_cases hk : k < 0 ∨ 3 ≤ k
  · rw [if_pos hk]
    constructor
    · intro h; cases h
    · rintro ⟨⟨j, hj, rfl, _⟩, _⟩; omega
  · rw [if_neg hk]
    obtain ⟨j, rfl⟩ : ∃ j : Nat, k = (j : Int) := ⟨k.toNat, by omega⟩
    rw [Int.toNat_natCast]
    by_cases hs : 65534 < s.size
    · rw [if_pos hs]
      constructor
      · intro h; cases h
      · rintro ⟨_, h, _⟩; omega
    · rw [if_neg hs, dcEnd_ok, rd_ok]
      constructor
      · rintro ⟨h1, h2⟩; exact ⟨⟨j, by omega, rfl, h1⟩, by omega, h2⟩
      · rintro ⟨⟨j', _, h1, h2⟩, _, h3⟩
        obtain rfl : j = j' := by omega
        exact ⟨h2, h3⟩
theorem enS_ok {P : Row → Int → List Int × Row} {a : Row} {R : List Row} {k : Int} {s : ByteArray} {o : List Int} : enS P a R k s = .ok o ↔ (∃ j : Nat, j < 3 ∧ k = (j : Int) ∧ wrS P (kdS (2 * j)) (kdS (2 * j + 1)) a R s s.size 0 a [] = .ok o) ∧ s.size ≤ 65534 ∧ o.length ≤ 65534 := by
  unfold enS
  by_cases hk : k < 0 ∨ 3 ≤ k
  · rw [if_pos hk]
    constructor
    · intro h; cases h
    · rintro ⟨⟨j, hj, rfl, _⟩, _⟩; omega
  · rw [if_neg hk]
    obtain ⟨j, rfl⟩ : ∃ j : Nat, k = (j : Int) := ⟨k.toNat, by omega⟩
    rw [Int.toNat_natCast]
    by_cases hs : 65534 < s.size
    · rw [if_pos hs]
      constructor
      · intro h; cases h
      · rintro ⟨_, h, _⟩; omega
    · rw [if_neg hs, dcEnd_ok]
      constructor
      · rintro ⟨h1, h2⟩; exact ⟨⟨j, by omega, rfl, h1⟩, by omega, h2⟩
      · rintro ⟨⟨j', _, h1, h2⟩, _, h3⟩
        obtain rfl : j = j' := by omega
        exact ⟨h2, h3⟩

theorem utf_len (rs : List Nat) : rs.length ≤ (utf rs).length := by
  induction rs with
  | nil => simp
  | cons r rs ih =>
    have : utf (r :: rs) = Lib.encodeRuneZ (r : Int) ++ utf rs := rfl
    have h1 := (Lib.encodeRuneZ_length (r : Int)).1
    rw [this, List.length_append, List.length_cons]
    omega
theorem utf_byte (rs : List Nat) : ∀ z ∈ utf rs, 0 ≤ z ∧ z < 256 := by
  intro z hz
  unfold utf at hz
  obtain ⟨r, -, hr⟩ := List.mem_flatMap.1 hz
  exact Lib.encodeRuneZ_byte _ z hr

theorem Pz_facts {x : Bool} {a : Row} {R : List Row} (hC : Cond x a R) {h : Row} (hm : h ∈ a :: R) {r : Int} (hasc : asc r = false) (hh : hasS a R r = true) : (Pz a R h r).2 ∈ a :: R ∧ 0 < (Pz a R h r).1.length ∧ (Pz a R h r).1.length ≤ 4 ∧ (∀ z ∈ (Pz a R h r).1, 0 ≤ z ∧ z < 256) := by
  unfold Pz
  by_cases h6 : a.1 = 6
  · rw [if_pos h6]
    have := Lib.encodeRuneZ_length r
    exact ⟨hm, this.1, this.2, Lib.encodeRuneZ_byte r⟩
  · rw [if_neg h6]
    by_cases hb : byteOf h.1 r ≠ 0
    · rw [if_pos hb]
      refine ⟨hm, by simp, by simp, ?_⟩
      intro z hz
      have := byte_lt h.1 r
      simp at hz
      omega
    · rw [if_neg hb]
      obtain ⟨b, hbm, hfd, hbb⟩ := hasS_first h6 hasc hh
      rw [hfd]
      have hb6 : b.1 < 6 := by
        rcases Nat.lt_or_ge b.1 6 with h | h
        · exact h
        · have h7 := hC.n7 b hbm
          obtain ⟨d, _, h2, _, _⟩ := byteOf_at hbb
          have : b.1 = 6 := by omega
          rw [this] at h2
          exact absurd rfl h2
      have hsz := esc_size ⟨b.1, hb6⟩
      simp only at hsz
      refine ⟨hbm, ?_, ?_, escZ_bytes b r⟩
      · unfold escZ; simp
      · unfold escZ
        rw [List.length_append, List.length_map]
        simp
        omega
theorem wrRs_len {x : Bool} {kc ke : ByteArray} {a : Row} {R : List Row} (hC : Cond x a R) : ∀ (rs : List Nat) (h : Row), (∀ r ∈ rs, Gd kc a R r) → h ∈ a :: R → (wrRs (Pz a R) kc ke a h rs).length ≤ 4 * rs.length ∧ ∀ z ∈ wrRs (Pz a R) kc ke a h rs, 0 ≤ z ∧ z < 256
  | [], _, _, _ => by simp [wrRs]
  | r :: rs, h, hg, hm => by
    rw [wrRs]
    by_cases hp : plainR kc (r : Int) = true
    · rw [if_pos hp]
      obtain ⟨h1, h2⟩ := wrRs_len (ke := ke) hC rs (if hasR ke (r : Int) = true then a else h) (fun r' hr' => hg r' (by simp [hr'])) (by split; exact List.mem_cons_self; exact hm)
      refine ⟨by rw [List.length_cons, List.length_cons]; omega, ?_⟩
      intro z hz
      have := plain_lo hp
      rcases List.mem_cons.1 hz with rfl | hz
      · omega
      · exact h2 z hz
    · rw [if_neg hp]
      obtain ⟨_, hasc, hh⟩ := hi_of hC.n7 hp (hg r (by simp))
      obtain ⟨p1, p2, p3, p4⟩ := Pz_facts hC hm hasc hh
      obtain ⟨h1, h2⟩ := wrRs_len (ke := ke) hC rs (Pz a R h (r : Int)).2 (fun r' hr' => hg r' (by simp [hr'])) p1
      refine ⟨by rw [List.length_append, List.length_cons]; omega, ?_⟩
      intro z hz
      rcases List.mem_append.1 hz with hz | hz
      · exact p4 z hz
      · exact h2 z hz

/-- What Encode writes Decode reads. -/
theorem en_dc {x : Bool} {a : Row} {R : List Row} (hC : Cond x a R) {k : Int} {s : ByteArray} {o : List Int} (h : enS (Pz a R) a R k s = .ok o) : dcS x a R k (bsZ o) = .ok (tz s.data.toList) := by
  obtain ⟨⟨j, hj, rfl, hw⟩, hs, hl⟩ := enS_ok.1 h
  obtain ⟨rs, hg, ht, ho⟩ := wr_runes (Pz a R) _ _ a R s s.size 0 a [] o (by omega) hw
  rw [List.nil_append] at ho
  rw [List.drop_zero] at ht
  refine dcS_ok.2 ⟨⟨j, hj, rfl, ?_⟩, by rw [show (bsZ o).size = o.length by simp [bsZ, ByteArray.size]]; omega, by rw [tz_len, data_len]; omega⟩
  rw [bsZ_list, ht, ho]
  exact rd_wr x _ _ a R hC (kd_esc ⟨2 * j, by omega⟩) rs _ a hg (by simp) (by rw [zb_len]; simp [bsZ, ByteArray.size])

/-- What Decode reads Encode writes; without code extensions as the same bytes. -/
theorem dc_en {x : Bool} {a : Row} {R : List Row} (hC : Cond x a R) {k : Int} {s : ByteArray} {t : List Int} (h : dcS x a R k s = .ok t) :
    tz (bsZ t).data.toList = t ∧ (x = false → enS (Pz a R) a R k (bsZ t) = .ok (tz s.data.toList)) ∧ (t.length ≤ 16000 → ∃ c, enS (Pz a R) a R k (bsZ t) = .ok c) := by
  obtain ⟨⟨j, hj, rfl, hr⟩, hs, hl⟩ := dcS_ok.1 h
  obtain ⟨rs, hg, rfl, hw⟩ := wr_rd x _ _ a R hC s.size s.data.toList a t (by rw [data_len]; omega) (by simp) hr
  have ht : tz (bsZ (utf rs)).data.toList = utf rs := by rw [bsZ_list, tz_zb (utf_byte rs)]
  have hsz : (bsZ (utf rs)).size = (utf rs).length := by simp [bsZ, ByteArray.size]
  have he := wr_text (Pz a R) (kdS (2 * j)) (kdS (2 * j + 1)) a R (bsZ (utf rs)) rs (bsZ (utf rs)).size 0 a [] (by omega) hg (by rw [List.drop_zero, ht])
  rw [List.nil_append] at he
  refine ⟨ht, fun hx => enS_ok.2 ⟨⟨j, hj, rfl, ?_⟩, by omega, by rw [tz_len, data_len]; omega⟩, fun h16 => ⟨_, enS_ok.2 ⟨⟨j, hj, rfl, he⟩, by omega, ?_⟩⟩⟩
  · rw [he, hw hx]
  · have h1 := (wrRs_len (kc := kdS (2 * j)) (ke := kdS (2 * j + 1)) hC rs a hg (by simp)).1
    have h2 := utf_len rs
    omega

/-- ASCII is itself in every set. -/
theorem ascii_both {x : Bool} {a : Row} {R : List Row} (hC : Cond x a R) {j : Nat} (hj : j < 3) {s : ByteArray} (hs : s.size ≤ 65534) (ha : ∀ b ∈ s.data.toList, 32 ≤ b.toNat ∧ b.toNat ≤ 126) : enS (Pz a R) a R (j : Int) s = .ok (tz s.data.toList) ∧ dcS x a R (j : Int) s = .ok (tz s.data.toList) := by
  have hpl : ∀ kc : ByteArray, ∀ b ∈ s.data.toList, plainR kc (b.toNat : Int) = true := fun kc b hb => by
    have := ha b hb
    unfold plainR asc
    simp
    omega
  generalize hl : s.data.toList = l at *
  have hrs : utf (l.map fun b => b.toNat) = tz l := by
    have : ∀ m : List UInt8, (∀ b ∈ m, 32 ≤ b.toNat ∧ b.toNat ≤ 126) → utf (m.map fun b => b.toNat) = tz m := by
      intro m
      induction m with
      | nil => intro _; rfl
      | cons b m ih =>
        intro hm
        have hb := hm b (by simp)
        have : utf ((b :: m).map fun b => b.toNat) = Lib.encodeRuneZ (b.toNat : Int) ++ utf (m.map fun b => b.toNat) := rfl
        rw [this, ih (fun c hc => hm c (by simp [hc])), enc_low (by omega) (by omega)]
        rfl
    exact this l ha
  have hwl : ∀ (kc ke : ByteArray) (m : List UInt8) (h : Row), (∀ b ∈ m, plainR kc (b.toNat : Int) = true) → wrRs (Pz a R) kc ke a h (m.map fun b => b.toNat) = tz m := by
    intro kc ke m
    induction m with
    | nil => intro h _; rfl
    | cons b m ih =>
      intro h hm
      rw [List.map_cons, wrRs, if_pos (hm b (by simp)), ih _ (fun c hc => hm c (by simp [hc]))]
      rfl
  have hgd : ∀ kc : ByteArray, ∀ r ∈ l.map (fun b => b.toNat), Gd kc a R r := by
    intro kc r hr
    obtain ⟨b, hb, rfl⟩ := List.mem_map.1 hr
    exact .inl (hpl kc b hb)
  have hlen : l.length = s.size := by rw [← hl, data_len]
  have he := wr_text (Pz a R) (kdS (2 * j)) (kdS (2 * j + 1)) a R s (l.map fun b => b.toNat) s.size 0 a [] (by omega) (hgd _) (by rw [List.drop_zero, hl, hrs])
  rw [List.nil_append, hwl _ _ l a (hpl _)] at he
  refine ⟨enS_ok.2 ⟨⟨j, hj, rfl, he⟩, hs, by rw [tz_len]; omega⟩, dcS_ok.2 ⟨⟨j, hj, rfl, ?_⟩, hs, by rw [tz_len]; omega⟩⟩
  have hrd := rd_wr x (kdS (2 * j)) (kdS (2 * j + 1)) a R hC (kd_esc ⟨2 * j, by omega⟩) (l.map fun b => b.toNat) s.size a (hgd _) (by simp) (by rw [hwl _ _ l a (hpl _), zb_tz]; omega)
  rw [hwl _ _ l a (hpl _), zb_tz, hrs] at hrd
  rw [hl]
  exact hrd
end Go.Proofs.YtmhjjpdfjilobaaDoor
