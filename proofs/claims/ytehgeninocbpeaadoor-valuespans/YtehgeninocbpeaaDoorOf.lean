import Derived.Test.YtehgeninocbpeaaDoorOe
/-
  DERIVED. To read from a place on is to read what follows it, moved.
-/
namespace Go.Proofs.YtehgeninocbpeaaDoor.Tm
open Go Go.Proofs Go.RowKit

def mvO (k : Nat) (o : Option (Int × Int)) : Option (Int × Int) := o.map fun x => (x.1 + (k : Int), x.2)
def sh (k : Nat) (S : Mst) : Mst := { S with a := k + S.a, o := mvO k S.o }
theorem mvO_none (k : Nat) : mvO k none = none := rfl
theorem nextD_mv (k : Nat) (o : Option (Int × Int)) (bad : Bool) (pl : Nat) : nextD (mvO k o) bad (k + pl) = mvO k (nextD o bad pl) := by
  unfold nextD mvO
  cases bad with
  | false => simp
  | true =>
    cases o with
    | none => simp; omega
    | some x => simp

/-- What follows a place. -/
def suf (s : ByteArray) (k : Nat) : ByteArray := s.extract k s.size
theorem suf_size {s : ByteArray} {k : Nat} (hk : k ≤ s.size) : (suf s k).size = s.size - k := by unfold suf; rw [ByteArray.size_extract]; omega
theorem suf_list (s : ByteArray) (k : Nat) : (suf s k).data.toList = s.data.toList.drop k := by
  unfold suf
  rw [ByteArray.data_extract, Array.toList_extract, List.extract_eq_take_drop]
  apply List.take_of_length_le
  rw [List.length_drop, Array.length_toList]
  exact Nat.le_refl _
theorem suf_get {s : ByteArray} {k i : Nat} (hk : k ≤ s.size) (hi : i < (suf s k).size) : (suf s k).get! i = s.get! (k + i) := by
  have hs := suf_size hk
  have h1 := at_get hi
  rw [suf_list, List.getElem?_drop, at_get (by omega)] at h1
  exact (Option.some.inj h1).symm
theorem suf_isD {s : ByteArray} {k : Nat} (hk : k ≤ s.size) (i : Nat) : isD (suf s k) i = isD s (k + i) := by
  have hs := suf_size hk
  unfold isD
  by_cases hi : i < (suf s k).size
  · rw [suf_get hk hi, decide_eq_true hi, decide_eq_true (show k + i < s.size by omega)]
  · rw [decide_eq_false hi, decide_eq_false (show ¬ k + i < s.size by omega), Bool.false_and, Bool.false_and]
theorem suf_cnt {s : ByteArray} {k : Nat} (hk : k ≤ s.size) : ∀ m i, cnt (suf s k) i m = cnt s (k + i) m
  | 0, i => rfl
  | m + 1, i => by
    have ih := suf_cnt hk m (i + 1)
    simp only [cnt]
    rw [suf_isD hk, ih, Nat.add_assoc]
theorem suf_nv (s : ByteArray) (k i c : Nat) : nv (suf s k) i c = nv s (k + i) c := by
  unfold nv
  congr 1
  rw [ByteArray.data_extract, Array.toList_extract, List.extract_eq_take_drop, suf_list, List.drop_drop]
  rw [ByteArray.data_extract, Array.toList_extract, List.extract_eq_take_drop]
  rw [Nat.add_sub_cancel_left, Nat.add_sub_cancel_left]
theorem suf_nx {s : ByteArray} {k : Nat} (hk : k ≤ s.size) (a : Nat) (b : Bool) : nx (suf s k) a b = nx s (k + a) b := by
  have hs := suf_size hk
  unfold nx
  by_cases h : b = true ∨ ¬ a < (suf s k).size
  · rw [if_pos h, if_pos (by rcases h with h | h; exact .inl h; exact .inr (by omega))]
  · rw [if_neg h, if_neg (by rintro (h1 | h1); exact h (.inl h1); exact h (.inr (by omega)))]
    rw [suf_get hk (by
      rcases Nat.lt_or_ge a (suf s k).size with h1 | h1
      · exact h1
      · exact absurd (.inr (by omega)) h)]

theorem sh_pcC {s : ByteArray} {k : Nat} (hk : k ≤ s.size) (S : Mst) (n : Nat) : pcC s (sh k S) n = pcC (suf s k) S n := by
  show (if S.b = true then 0 else cnt s (k + S.a) n) = (if S.b = true then 0 else cnt (suf s k) S.a n)
  rw [suf_cnt hk]
theorem sh_pcN {s : ByteArray} {k : Nat} (hk : k ≤ s.size) (S : Mst) (n : Nat) : pcN s (sh k S) n = pcN (suf s k) S n := by
  unfold pcN
  rw [sh_pcC hk]
  show nv s (k + S.a) _ = nv (suf s k) S.a _
  rw [suf_nv]
theorem sh_pcO {s : ByteArray} {k : Nat} (hk : k ≤ s.size) (S : Mst) (n : Nat) (lo hi : Int) : pcO s (sh k S) n lo hi = mvO k (pcO (suf s k) S n lo hi) := by
  unfold pcO
  rw [sh_pcN hk]
  exact nextD_mv k S.o _ S.a
theorem sh_year {s : ByteArray} {k : Nat} (hk : k ≤ s.size) (S : Mst) : yearS s (sh k S) = sh k (yearS (suf s k) S) := by
  unfold yearS
  rw [sh_pcC hk, sh_pcN hk, sh_pcO hk]
  unfold sh
  simp only [Nat.add_assoc]
theorem sh_month {s : ByteArray} {k : Nat} (hk : k ≤ s.size) (S : Mst) : monthS s (sh k S) = sh k (monthS (suf s k) S) := by
  unfold monthS
  rw [sh_pcC hk, sh_pcN hk, sh_pcO hk]
  unfold sh
  simp only [Nat.add_assoc]
theorem sh_day {s : ByteArray} {k : Nat} (hk : k ≤ s.size) (S : Mst) : dayS s (sh k S) = sh k (dayS (suf s k) S) := by
  unfold dayS
  rw [sh_pcC hk, sh_pcN hk, sh_pcO hk]
  unfold sh
  simp only [Nat.add_assoc]
theorem sh_hour {s : ByteArray} {k : Nat} (hk : k ≤ s.size) (S : Mst) : hourS s (sh k S) = sh k (hourS (suf s k) S) := by
  unfold hourS
  rw [sh_pcC hk, sh_pcN hk, sh_pcO hk]
  unfold sh
  simp only [Nat.add_assoc]
theorem sh_minute {s : ByteArray} {k : Nat} (hk : k ≤ s.size) (S : Mst) : minuteS s (sh k S) = sh k (minuteS (suf s k) S) := by
  unfold minuteS
  rw [sh_pcC hk, sh_pcN hk, sh_pcO hk]
  unfold sh
  simp only [Nat.add_assoc]
theorem sh_second {s : ByteArray} {k : Nat} (hk : k ≤ s.size) (S : Mst) : secondS s (sh k S) = sh k (secondS (suf s k) S) := by
  unfold secondS
  rw [sh_pcC hk, sh_pcN hk, sh_pcO hk]
  unfold sh
  simp only [Nat.add_assoc]
theorem sh_more {s : ByteArray} {k : Nat} (hk : k ≤ s.size) : ∀ (l1 l2 : List (Mst → Mst)), l1.length = l2.length → (∀ i (h1 : i < l1.length) (h2 : i < l2.length), ∀ S, l1[i] (sh k S) = sh k (l2[i] S)) → ∀ S, moreS s l1 (sh k S) = sh k (moreS (suf s k) l2 S)
  | [], [], _, _, S => rfl
  | t1 :: l1, t2 :: l2, hl, h, S => by
    rw [moreS, moreS]
    have e : (!(sh k S).b && isD s (sh k S).a) = (!S.b && isD (suf s k) S.a) := by
      show (!S.b && isD s (k + S.a)) = _
      rw [suf_isD hk]
    rw [e]
    by_cases hc : (!S.b && isD (suf s k) S.a) = true
    · rw [if_pos hc, if_pos hc]
      have h0 : t1 (sh k S) = sh k (t2 S) := h 0 (by simp) (by simp) S
      rw [h0]
      refine sh_more hk l1 l2 (by simpa using hl) (fun i h1 h2 S => ?_) (t2 S)
      exact h (i + 1) (by simpa using h1) (by simpa using h2) S
    · rw [if_neg hc, if_neg hc]
  | [], t2 :: l2, hl, _, _ => by simp at hl
  | t1 :: l1, [], hl, _, _ => by simp at hl
theorem sh_frac {s : ByteArray} {k : Nat} (hk : k ≤ s.size) (S : Mst) : fracS s (sh k S) = sh k (fracS (suf s k) S) := by
  have ec : frC s (sh k S) = frC (suf s k) S := by
    show cnt s (k + S.a + 1) 6 = cnt (suf s k) (S.a + 1) 6
    rw [suf_cnt hk, Nat.add_assoc]
  have en : nv s ((sh k S).a + 1) (frC (suf s k) S) = nv (suf s k) (S.a + 1) (frC (suf s k) S) := by
    rw [suf_nv]
    rfl
  unfold fracS
  have e1 : (sh k S).p = S.p := rfl
  have e2 : nx s (sh k S).a (sh k S).b = nx (suf s k) S.a S.b := (suf_nx hk S.a S.b).symm
  rw [e1, e2]
  split
  · rfl
  · split
    · unfold frS
      rw [ec, en]
      unfold sh
      simp only [Nat.add_assoc]
    · rfl
theorem sh_zone {s : ByteArray} {k : Nat} (hk : k ≤ s.size) (S : Mst) : zoneS s (sh k S) = sh k (zoneS (suf s k) S) := by
  have e2 : nx s (sh k S).a (sh k S).b = nx (suf s k) S.a S.b := (suf_nx hk S.a S.b).symm
  have c1 : zC1 s ((sh k S).a + 1) = zC1 (suf s k) (S.a + 1) := by
    show cnt s (k + S.a + 1) 2 = cnt (suf s k) (S.a + 1) 2
    rw [suf_cnt hk, Nat.add_assoc]
  have c2 : zC2 s ((sh k S).a + 1) = zC2 (suf s k) (S.a + 1) := by
    unfold zC2
    rw [c1, suf_cnt hk]
    show (if _ then _ else cnt s (k + S.a + 1 + _) 2) = _
    simp only [Nat.add_assoc]
  have cH : zH s ((sh k S).a + 1) = zH (suf s k) (S.a + 1) := by
    unfold zH
    rw [c1, suf_nv]
    rfl
  have cM : zM s ((sh k S).a + 1) = zM (suf s k) (S.a + 1) := by
    unfold zM
    rw [c1, c2, suf_nv]
    show nv s (k + S.a + 1 + _) _ = _
    simp only [Nat.add_assoc]
  have cV : ∀ x, zV s ((sh k S).a + 1) x = zV (suf s k) (S.a + 1) x := fun x => by unfold zV; rw [cH, cM]
  have cB : ∀ x, zBad s ((sh k S).a + 1) x = zBad (suf s k) (S.a + 1) x := fun x => by unfold zBad; rw [cM, cV]
  unfold zoneS
  rw [e2]
  split
  · unfold zoS
    rw [c1, c2, cV, cB]
    have eo : nextD (sh k S).o (zBad (suf s k) (S.a + 1) (nx (suf s k) S.a S.b)) (sh k S).a = mvO k (nextD S.o (zBad (suf s k) (S.a + 1) (nx (suf s k) S.a S.b)) S.a) := nextD_mv k S.o _ S.a
    rw [eo]
    unfold sh
    simp only [Nat.add_assoc]
  · rfl
theorem sh_start (k : Nat) : stA k = sh k (stA 0) := rfl
theorem sh_rd {s : ByteArray} {k : Nat} (hk : k ≤ s.size) (S : Mst) : rdO s (sh k S) = mvO k (rdO (suf s k) S) := by
  have hs := suf_size hk
  unfold rdO fmO
  show (if S.b = true ∨ k + S.a < s.size then some (((k + S.a : Nat) : Int), 100) else none).or (mvO k S.o) = _
  by_cases h : S.b = true ∨ S.a < (suf s k).size
  · rw [if_pos (by rcases h with h | h; exact .inl h; exact .inr (by omega)), if_pos h]
    show some (((k + S.a : Nat) : Int), (100 : Int)) = some ((S.a : Int) + (k : Int), 100)
    congr 2
    omega
  · rw [if_neg (by rintro (h1 | h1); exact h (.inl h1); exact h (.inr (by omega))), if_neg h]
    rfl
theorem sh_rdS {s : ByteArray} {k : Nat} (hk : k ≤ s.size) (vr : Int) : rdS vr s k = sh k (rdS vr (suf s k) 0) := by
  unfold rdS
  split
  · unfold dateF
    rw [sh_start k, sh_year hk, sh_month hk, sh_day hk]
  · split
    · unfold timeF
      rw [sh_start k, sh_hour hk, sh_more hk [minuteS s, secondS s] [minuteS (suf s k), secondS (suf s k)] rfl (fun i h1 _ S => by
        rcases (by simp at h1; omega : i = 0 ∨ i = 1) with rfl | rfl
        · exact sh_minute hk S
        · exact sh_second hk S), sh_frac hk]
    · unfold momF
      rw [sh_start k, sh_year hk, sh_more hk [monthS s, dayS s, hourS s, minuteS s, secondS s] [monthS (suf s k), dayS (suf s k), hourS (suf s k), minuteS (suf s k), secondS (suf s k)] rfl (fun i h1 _ S => by
        rcases (by simp at h1; omega : i = 0 ∨ i = 1 ∨ i = 2 ∨ i = 3 ∨ i = 4) with rfl | rfl | rfl | rfl | rfl
        · exact sh_month hk S
        · exact sh_day hk S
        · exact sh_hour hk S
        · exact sh_minute hk S
        · exact sh_second hk S), sh_frac hk, sh_zone hk]
theorem oR_suf {s : ByteArray} {k : Nat} (hk : k ≤ s.size) (vr : Int) : oR vr s k = mvO k (oR vr (suf s k) 0) := by
  unfold oR
  rw [sh_rdS hk, sh_rd hk]
theorem ow_suf {s : ByteArray} {k : Nat} (hk : k ≤ s.size) (vr : Int) : ow vr s k = ow vr (suf s k) 0 := by
  unfold ow
  rw [oR_suf hk, sh_rdS hk]
  cases oR vr (suf s k) 0 with
  | none => rfl
  | some x => rfl
end Go.Proofs.YtehgeninocbpeaaDoor.Tm
