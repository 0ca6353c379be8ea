import Derived.Test.YtohojghndnfgdaaGreatDoorQVg
import Derived.Test.YtohojghndnfgdaaGreatDoorQTh
/-
  DERIVED. Digits that were read, written again; a clock that was read.
-/
namespace Go.Proofs.YtohojghndnfgdaaGreatDoor.Tm
open Go Go.Proofs Go.RowKit

theorem valN_snoc : ∀ (l : List UInt8) (b : UInt8) (n : Nat), valN (l ++ [b]) n = 10 * valN l n + (b.toNat - 48)
  | [], b, n => rfl
  | c :: l, b, n => by rw [List.cons_append, valN, valN_snoc l b, valN]

theorem pd_val : ∀ (k : Nat) (l : List UInt8), l.length = k → (∀ b ∈ l, 48 ≤ b.toNat ∧ b.toNat ≤ 57) → pd (valN l 0) k = l
  | 0, l, h, _ => by rw [List.length_eq_zero_iff.1 h]; rfl
  | k + 1, l, h, hd => by
    rcases List.eq_nil_or_concat l with rfl | ⟨L, b, hl⟩
    · simp at h
    · rw [List.concat_eq_append] at hl
      subst hl
      have hL : L.length = k := by simpa using h
      have hb := hd b (by simp)
      rw [valN_snoc, pd]
      have e1 : (10 * valN L 0 + (b.toNat - 48)) / 10 = valN L 0 := by omega
      have e2 : 48 + (10 * valN L 0 + (b.toNat - 48)) % 10 = b.toNat := by omega
      rw [e1, e2, pd_val k L hL (fun c hc => hd c (by simp [hc])), UInt8.ofNat_toNat]

theorem ext_len {s : ByteArray} {a c : Nat} (h : a + c ≤ s.size) : (s.extract a (a + c)).data.toList.length = c := by
  rw [Array.length_toList]
  show (s.extract a (a + c)).size = c
  rw [ByteArray.size_extract]
  omega

theorem cnt_fit {s : ByteArray} {a k : Nat} (hk : 1 ≤ k) (h : cnt s a k = k) : a + k ≤ s.size := by
  have := cnt_digit s k a (k - 1) (by omega)
  unfold isD at this
  simp only [Bool.and_eq_true, decide_eq_true_eq] at this
  omega

theorem piece_text {s : ByteArray} {a k c : Nat} (hk : k ≤ cnt s a c) (hz : a + k ≤ s.size) : (s.extract a (a + k)).data.toList = pd (nv s a k) k :=
  (pd_val k _ (ext_len hz) (digs_ext s a k c hk)).symm

theorem pd_zeros : ∀ (j k a : Nat), pd (a * 10 ^ j) (k + j) = pd a k ++ pd 0 j
  | 0, k, a => by simp [pd]
  | j + 1, k, a => by
    rw [show k + (j + 1) = (k + j) + 1 by omega, pd, pd]
    have e1 : a * 10 ^ (j + 1) / 10 = a * 10 ^ j := by rw [Nat.pow_succ, ← Nat.mul_assoc]; omega
    have e2 : a * 10 ^ (j + 1) % 10 = 0 := by rw [Nat.pow_succ, ← Nat.mul_assoc]; omega
    rw [e1, e2, pd_zeros j k a, List.append_assoc]

theorem ext_cat (s : ByteArray) {a b c : Nat} (h1 : a ≤ b) (h2 : b ≤ c) : (s.extract a c).data.toList = (s.extract a b).data.toList ++ (s.extract b c).data.toList := by
  rw [ByteArray.data_extract, ByteArray.data_extract, ByteArray.data_extract]
  simp only [Array.toList_extract, List.extract_eq_take_drop]
  rw [show c - a = (b - a) + (c - b) by omega, List.take_add, List.drop_drop, show a + (b - a) = b by omega]

theorem ext_all (s : ByteArray) {a : Nat} (h : s.size ≤ a) : s.extract 0 a = s := by
  apply ByteArray.ext
  rw [ByteArray.data_extract]
  apply Array.ext'
  rw [Array.toList_extract, List.extract_eq_take_drop]
  simp only [List.drop_zero, Nat.sub_zero]
  exact List.take_of_length_le (by rw [Array.length_toList]; exact h)

theorem nextD_none {o : Option (Int × Int)} {bad : Bool} {pl : Nat} (h : nextD o bad pl = none) : o = none ∧ bad = false := by
  unfold nextD at h
  cases bad with
  | true =>
    rw [if_pos rfl] at h
    by_cases ho : o = none
    · rw [if_pos ho] at h; exact absurd h (by simp)
    · rw [if_neg ho] at h; exact absurd h ho
  | false => rw [if_neg (by simp)] at h; exact ⟨h, rfl⟩

/-- Nothing amiss so far. -/
def Gd (S : Mst) : Prop := S.b = false ∧ S.o = none

theorem pc_good {s : ByteArray} {S : Mst} {k : Nat} {lo hi : Int} (hk : 1 ≤ k) (hb : (S.b || decide (pcC s S k < k)) = false) (ho : pcO s S k lo hi = none) :
    Gd S ∧ pcC s S k = k ∧ S.a + k ≤ s.size ∧ lo ≤ (pcN s S k : Int) ∧ (pcN s S k : Int) ≤ hi ∧ (s.extract S.a (S.a + k)).data.toList = pd (pcN s S k) k := by
  rw [Bool.or_eq_false_iff] at hb
  obtain ⟨h1, h2⟩ := hb
  obtain ⟨h3, h4⟩ := nextD_none ho
  have h5 : pcC s S k = cnt s S.a k := by unfold pcC; rw [if_neg (by rw [h1]; simp)]
  have h6 := cnt_le s k S.a
  have h7 : ¬ pcC s S k < k := of_decide_eq_false h2
  have h8 : cnt s S.a k = k := by omega
  have hz := cnt_fit hk h8
  rw [Bool.or_eq_false_iff] at h4
  have h9 := of_decide_eq_false h4.1
  have h10 := of_decide_eq_false h4.2
  have hC : pcC s S k = k := by omega
  refine ⟨⟨h1, h3⟩, hC, hz, by omega, by omega, ?_⟩
  unfold pcN
  rw [hC]
  exact piece_text (c := k) (by omega) hz

/-- A clock that was read from here on. -/
structure Tt (s : ByteArray) (S : Mst) (a0 k : Nat) : Prop where
  gd : Gd S
  lo : a0 ≤ S.a
  hi : S.a ≤ s.size
  p : S.p = k
  p9 : k ≤ 9
  z : k = 0 → S.a = a0 ∧ S.h = 0 ∧ S.mi = 0 ∧ S.sc = 0 ∧ S.mc = 0
  h : S.h ≤ 23
  mi : S.mi ≤ 59
  sc : S.sc ≤ 60
  mc : S.mc ≤ 999999
  m2 : k < 2 → S.mi = 0
  s3 : k < 3 → S.sc = 0
  c3 : k ≤ 3 → S.mc = 0
  md : 3 < k → S.mc % 10 ^ (9 - k) = 0
  tx : (s.extract a0 S.a).data.toList = (tT S.h S.mi S.sc S.mc k).data.toList

theorem hour_tt {s : ByteArray} {S : Mst} {a0 : Nat} (H : Tt s S a0 0) (g : Gd (hourS s S)) : Tt s (hourS s S) a0 1 := by
  obtain ⟨hb, ho⟩ := g
  obtain ⟨_, hC, hz, h1, h2, ht⟩ := pc_good (by omega) hb ho
  obtain ⟨e1, e2, e3, e4, e5⟩ := H.z rfl
  have eA : (hourS s S).a = S.a + 2 := by show S.a + pcC s S 2 = _; rw [hC]
  refine ⟨⟨hb, ho⟩, by rw [eA]; omega, by rw [eA]; omega, rfl, by omega, fun h => by omega, ?_, ?_, ?_, ?_, fun _ => e3, fun _ => e4, fun _ => e5, fun h => by omega, ?_⟩
  · show pcN s S 2 ≤ 23; omega
  · show S.mi ≤ 59; omega
  · show S.sc ≤ 60; omega
  · show S.mc ≤ 999999; omega
  · rw [eA, ← e1, ht]
    rw [tT_list _ _ _ _ _ (by omega), List.append_assoc, List.take_append_of_le_length (by rw [pd_len]; omega), List.take_of_length_le (by rw [pd_len]; omega)]
    rfl

theorem minute_tt {s : ByteArray} {S : Mst} {a0 : Nat} (H : Tt s S a0 1) (g : Gd (minuteS s S)) : Tt s (minuteS s S) a0 2 := by
  obtain ⟨hb, ho⟩ := g
  obtain ⟨_, hC, hz, h1, h2, ht⟩ := pc_good (by omega) hb ho
  have e0 := H.lo
  have e4 := H.s3 (by omega)
  have e5 := H.c3 (by omega)
  have eA : (minuteS s S).a = S.a + 2 := by show S.a + pcC s S 2 = _; rw [hC]
  refine ⟨⟨hb, ho⟩, by rw [eA]; omega, by rw [eA]; omega, rfl, by omega, fun h => by omega, H.h, ?_, ?_, ?_, fun h => by omega, fun _ => e4, fun _ => e5, fun h => by omega, ?_⟩
  · show pcN s S 2 ≤ 59; omega
  · show S.sc ≤ 60; omega
  · show S.mc ≤ 999999; omega
  · rw [eA, ext_cat s H.lo (Nat.le_add_right _ _), ht, H.tx, tT_1, tT_2, ByteArray.data_append, Array.toList_append]
    rfl

theorem second_tt {s : ByteArray} {S : Mst} {a0 : Nat} (H : Tt s S a0 2) (g : Gd (secondS s S)) : Tt s (secondS s S) a0 3 := by
  obtain ⟨hb, ho⟩ := g
  obtain ⟨_, hC, hz, h1, h2, ht⟩ := pc_good (by omega) hb ho
  have e0 := H.lo
  have e5 := H.c3 (by omega)
  have eA : (secondS s S).a = S.a + 2 := by show S.a + pcC s S 2 = _; rw [hC]
  refine ⟨⟨hb, ho⟩, by rw [eA]; omega, by rw [eA]; omega, rfl, by omega, fun h => by omega, H.h, H.mi, ?_, ?_, fun h => by omega, fun h => by omega, fun _ => e5, fun h => by omega, ?_⟩
  · show pcN s S 2 ≤ 60; omega
  · show S.mc ≤ 999999; omega
  · rw [eA, ext_cat s H.lo (Nat.le_add_right _ _), ht, H.tx, tT_2, tT_3, ByteArray.data_append, Array.toList_append, ByteArray.data_append, Array.toList_append, ByteArray.data_append, Array.toList_append]
    rfl

theorem tT_frac (h m s c p : Nat) (hp : 3 < p) : (tT h m s c p).data.toList = (tT h m s 0 3).data.toList ++ [46] ++ (pd c 6).take (p - 3) := by
  unfold tT
  rw [if_neg (by omega), if_pos (by omega)]
  rw [ByteArray.data_append, ByteArray.data_append, Array.toList_append, Array.toList_append, ByteArray.data_extract, ByteArray.data_extract, Array.toList_extract, Array.toList_extract, List.extract_eq_take_drop, List.extract_eq_take_drop]
  have h6 : (tx6 h m s).data.toList.length = 6 := by rw [Array.length_toList]; exact tx6_size h m s
  simp only [List.drop_zero, Nat.sub_zero]
  rw [List.take_of_length_le (by omega : (tx6 h m s).data.toList.length ≤ 2 * 3)]
  rfl

theorem get_at {s : ByteArray} {a : Nat} (h : a < s.size) : (s.extract a (a + 1)).data.toList = [s.get! a] := by
  have h1 := drop_byte h
  rw [ByteArray.data_extract, Array.toList_extract, List.extract_eq_take_drop, show a + 1 - a = 1 by omega, h1, get_get! s a h]
  rfl

theorem frac_gd {s : ByteArray} {S : Mst} (g : Gd (fracS s S)) : Gd S := by
  unfold fracS at g
  split at g
  · exact g
  · split at g
    · rename_i h
      have := nx_pos (s := s) (a := S.a) (b := S.b) (by omega)
      exact ⟨this.1, g.2⟩
    · exact g

theorem pow_md (n k : Nat) : n * 10 ^ k % 10 ^ k = 0 := Nat.mul_mod_left _ _

theorem frac_tt {s : ByteArray} {S : Mst} {a0 p : Nat} (H : Tt s S a0 p) (hp3 : p ≤ 3) (g : Gd (fracS s S)) : ∃ p', Tt s (fracS s S) a0 p' ∧ (p' = 0 → p = 0) ∧ (p = 0 → p' = 0) := by
  unfold fracS at g ⊢
  by_cases hp : S.p < 3
  · rw [if_pos hp] at g ⊢; exact ⟨p, H, id, id⟩
  · rw [if_neg hp] at g ⊢
    by_cases hx : nx s S.a S.b = 46
    · rw [if_pos hx] at g ⊢
      have hP := H.p
      have e3 : p = 3 := by omega
      subst e3
      obtain ⟨hb, ho⟩ := g
      have h1 : ¬ frC s S < 1 := of_decide_eq_false hb
      have hn := nx_pos (s := s) (a := S.a) (b := S.b) (by omega)
      have h46 : s.get! S.a = 46 := by
        unfold nx at hx
        rw [if_neg (by rw [hn.1]; simp [hn.2])] at hx
        exact UInt8.toNat_inj.1 hx
      have h6 : frC s S ≤ 6 := cnt_le s 6 _
      have hz : S.a + 1 + frC s S ≤ s.size := cnt_size s 6 (S.a + 1) (by omega)
      have ht : (s.extract (S.a + 1) (S.a + 1 + frC s S)).data.toList = pd (nv s (S.a + 1) (frC s S)) (frC s S) := piece_text (c := 6) (Nat.le_refl _) hz
      have hv : nv s (S.a + 1) (frC s S) < 10 ^ frC s S := nv_lt s (S.a + 1) (frC s S) 6 (Nat.le_refl _)
      have hlo := H.lo
      have hc3 := H.c3 (by omega)
      generalize hc : frC s S = c at *
      generalize hN : nv s (S.a + 1) c = n at *
      have eA : (frS s S).a = S.a + 1 + c := by show S.a + 1 + frC s S = _; rw [hc]
      have eM : (frS s S).mc = n * 10 ^ (6 - c) := by show nv s (S.a + 1) (frC s S) * 10 ^ (6 - frC s S) = _; rw [hc, hN]
      have eP : (frS s S).p = 3 + c := by show S.p + frC s S = _; rw [hc, hP]
      have hM : n * 10 ^ (6 - c) < 10 ^ 6 := by
        have : n * 10 ^ (6 - c) < 10 ^ c * 10 ^ (6 - c) := Nat.mul_lt_mul_of_pos_right hv (Nat.pow_pos (by omega))
        rw [← Nat.pow_add, show c + (6 - c) = 6 by omega] at this
        exact this
      refine ⟨3 + c, ⟨⟨hb, ho⟩, by rw [eA]; omega, by rw [eA]; omega, eP, by omega, fun h => by omega, H.h, H.mi, H.sc, by rw [eM]; omega, fun h => by omega, fun h => by omega, fun h => by omega, fun _ => ?_, ?_⟩, fun h => by omega, fun h => by omega⟩
      · rw [eM, show 9 - (3 + c) = 6 - c by omega]; exact pow_md _ _
      · rw [eA, ext_cat s (b := S.a + 1) (by omega) (by omega), ext_cat s H.lo (b := S.a) (c := S.a + 1) (by omega), get_at hn.2, H.tx, ht, h46]
        rw [eM]
        show _ = (tT S.h S.mi S.sc (n * 10 ^ (6 - c)) (3 + c)).data.toList
        rw [tT_frac S.h S.mi S.sc (n * 10 ^ (6 - c)) (3 + c) (by omega), hc3, show 3 + c - 3 = c by omega]
        congr 1
        have := pd_zeros (6 - c) c n
        rw [show c + (6 - c) = 6 by omega] at this
        rw [this, List.take_append_of_le_length (by rw [pd_len]; omega), List.take_of_length_le (by rw [pd_len]; omega)]
    · rw [if_neg hx] at g ⊢; exact ⟨p, H, id, id⟩

theorem more_gd {s : ByteArray} : ∀ (l : List (Mst → Mst)) (S : Mst), (∀ t ∈ l, ∀ S, Gd (t S) → Gd S) → Gd (moreS s l S) → Gd S
  | [], S, _, h => h
  | t :: l, S, ht, h => by
    unfold moreS at h
    split at h
    · exact ht t (by simp) S (more_gd l (t S) (fun u hu => ht u (by simp [hu])) h)
    · exact h

theorem hour_gd {s : ByteArray} {S : Mst} (g : Gd (hourS s S)) : Gd S := (pc_good (k := 2) (by omega) g.1 g.2).1
theorem minute_gd {s : ByteArray} {S : Mst} (g : Gd (minuteS s S)) : Gd S := (pc_good (k := 2) (by omega) g.1 g.2).1
theorem second_gd {s : ByteArray} {S : Mst} (g : Gd (secondS s S)) : Gd S := (pc_good (k := 2) (by omega) g.1 g.2).1
theorem month_gd {s : ByteArray} {S : Mst} (g : Gd (monthS s S)) : Gd S := (pc_good (k := 2) (by omega) g.1 g.2).1
theorem day_gd {s : ByteArray} {S : Mst} (g : Gd (dayS s S)) : Gd S := (pc_good (k := 2) (by omega) g.1 g.2).1
theorem year_gd {s : ByteArray} {S : Mst} (g : Gd (yearS s S)) : Gd S := (pc_good (k := 4) (by omega) g.1 g.2).1

theorem more3_tt {s : ByteArray} {S : Mst} {a0 : Nat} (H : Tt s S a0 2) (g : Gd (moreS s [secondS s] S)) : ∃ p, p ≤ 3 ∧ 1 ≤ p ∧ Tt s (moreS s [secondS s] S) a0 p := by
  rw [moreS] at g ⊢
  split at g
  · rename_i h
    rw [if_pos h]
    exact ⟨3, by omega, by omega, second_tt H g⟩
  · rename_i h
    rw [if_neg h]
    exact ⟨2, by omega, by omega, H⟩
theorem more2_tt {s : ByteArray} {S : Mst} {a0 : Nat} (H : Tt s S a0 1) (g : Gd (moreS s [minuteS s, secondS s] S)) : ∃ p, p ≤ 3 ∧ 1 ≤ p ∧ Tt s (moreS s [minuteS s, secondS s] S) a0 p := by
  rw [moreS] at g ⊢
  split at g
  · rename_i h
    rw [if_pos h]
    exact more3_tt (minute_tt H (more_gd _ _ (by intro t ht S; simp at ht; subst ht; exact second_gd) g)) g
  · rename_i h
    rw [if_neg h]
    exact ⟨1, by omega, by omega, H⟩

theorem Tt.tN {s : ByteArray} {S : Mst} {a0 p : Nat} (H : Tt s S a0 p) (hp : 1 ≤ p) : tN (S.h : Int) (S.mi : Int) (S.sc : Int) (S.mc : Int) (p : Int) = -1 := by
  have h1 := H.h; have h2 := H.mi; have h3 := H.sc; have h4 := H.mc; have h5 := H.p9; have h6 := H.m2; have h7 := H.s3; have h8 := H.c3; have h9 := H.md
  have hk : ((S.mc : Int)) % tk p = 0 := by
    by_cases hp3 : p ≤ 3
    · rw [h8 hp3]; exact Int.zero_emod _
    · have h9' := h9 (by omega)
      rcases (by omega : p = 4 ∨ p = 5 ∨ p = 6 ∨ p = 7 ∨ p = 8 ∨ p = 9) with rfl | rfl | rfl | rfl | rfl | rfl <;> simp [tk] at h9' ⊢ <;> omega
  unfold Tm.tN
  rw [if_neg (by omega), if_neg (by omega), if_neg (by omega), Int.toNat_natCast, hk, if_neg (by omega), if_neg (by omega)]

theorem time_back {s : ByteArray} (h : rdO s (timeS s) = none) : tN ((timeS s).h : Int) ((timeS s).mi : Int) ((timeS s).sc : Int) ((timeS s).mc : Int) ((timeS s).p : Int) = -1 ∧ tT (timeS s).h (timeS s).mi (timeS s).sc (timeS s).mc (timeS s).p = s := by
  unfold rdO fmO at h
  split at h
  · simp at h
  · rename_i hn
    rw [Option.none_or] at h
    have g : Gd (timeS s) := ⟨by cases hb : (timeS s).b with | true => exact absurd (Or.inl hb) hn | false => rfl, h⟩
    have hA : ¬ (timeS s).a < s.size := fun h => hn (Or.inr h)
    unfold timeS at g hA ⊢
    have g1 := frac_gd g
    have g2 : Gd (hourS s st0) := more_gd _ _ (by intro t ht S; simp at ht; rcases ht with rfl | rfl; exact minute_gd; exact second_gd) g1
    have H0 : Tt s st0 0 0 := ⟨⟨rfl, rfl⟩, Nat.le_refl _, Nat.zero_le _, rfl, by omega, fun _ => ⟨rfl, rfl, rfl, rfl, rfl⟩, Nat.zero_le _, Nat.zero_le _, Nat.zero_le _, Nat.zero_le _, fun _ => rfl, fun _ => rfl, fun _ => rfl, fun h => by omega, by
      show (s.extract 0 0).data.toList = _
      rw [tT_0]
      rw [ByteArray.data_extract]; simp⟩
    obtain ⟨p, hp3, hp1, H1⟩ := more2_tt (hour_tt H0 g2) g1
    obtain ⟨p', H2, hq, _⟩ := frac_tt H1 hp3 g
    refine ⟨?_, ?_⟩
    · rw [H2.p]; exact H2.tN (by omega)
    · have := H2.tx
      rw [ext_all s (by omega)] at this
      rw [H2.p]
      exact (ba_ext this).symm
end Go.Proofs.YtohojghndnfgdaaGreatDoor.Tm
