
import Derived.Test.YtegfgbcimlacbaaGreatDoorPl
import Derived.Lib.DecodeN
/-
  DERIVED. A text is read piece by piece.
-/
namespace Go.Proofs.YtegfgbcimlacbaaGreatDoor
open Go Go.Proofs Go.RowKit

theorem esc_size : ∀ k : Fin 6, (sp (3 * k.val + 2)).size = 3 := by decide +kernel
theorem pre_short {T : ByteArray} (hT : T.size < 3) (k : Nat) (hk : k < 6) : pre T (sp (3 * k + 2)) = false := by
  unfold pre
  have := esc_size ⟨k, hk⟩
  simp only at this
  rw [this]
  simp; omega

theorem turn_short {T : ByteArray} (hT : T.size < 3) (R : List Row) (hR : ∀ r ∈ R, r.1 < 6) (h : Row) : turnS T R h = (h, false) := by
  unfold turnS
  rw [if_neg (by rw [show (2 : Nat) = 3 * 0 + 2 from rfl, pre_short hT 0 (by omega)]; decide)]
  have : escL T R = none := by
    induction R with
    | nil => rfl
    | cons a R ih =>
      rw [escL, if_neg (by rw [pre_short hT a.1 (hR a (by simp))]; decide)]
      exact ih (fun r hr => hR r (by simp [hr]))
  rw [this]

theorem hasR_far (s : ByteArray) {r : Int} (h : 128 ≤ r) : hasR s r = false := by
  unfold hasR
  rw [decide_eq_false (by omega), Bool.false_and]
theorem enc_low {r : Int} (h0 : 0 ≤ r) (h1 : r ≤ 127) : Lib.encodeRuneZ r = [r] := by
  unfold Lib.encodeRuneZ
  rw [if_pos ⟨h0, h1⟩]
/-- The bytes, one by one; nothing beyond. -/
def bsT (T : ByteArray) (i : Nat) : Nat := (T.get! i).toNat
theorem bsT_lt (T : ByteArray) (i : Nat) : bsT T i < 256 := (T.get! i).toNat_lt
theorem bsT_at {T : ByteArray} {i : Nat} (h : i < T.size) : bsT T i = (T[i]'h).toNat := by
  unfold bsT
  congr 1
  show T.data[i]! = T.data[i]
  exact getElem!_pos T.data i h

theorem decGo {T : ByteArray} (hz : 0 < T.size) : Lib.decodeGo T = Lib.decodeN T.size (bsT T 0) (bsT T 1) (bsT T 2) (bsT T 3) := by
  unfold Lib.decodeGo
  rw [if_neg (by omega), Lib.decode_at]
  rfl

def ba (l : List UInt8) : ByteArray := ⟨l.toArray⟩
theorem ba_size (l : List UInt8) : (ba l).size = l.length := by simp [ba, ByteArray.size]
theorem ba_list (s : ByteArray) : ba s.data.toList = s := by cases s; rfl
theorem ba_ext (s : ByteArray) (a : Nat) : s.extract a s.size = ba (s.data.toList.drop a) := by
  apply ByteArray.ext
  apply Array.ext'
  simp [ba]
  exact List.take_of_length_le (by simp)
theorem ba_at {l : List UInt8} {i : Nat} (h : i < (ba l).size) (h2 : i < l.length) : (ba l)[i]'h = l[i]'h2 := by
  show (ba l).data[i] = _
  simp [ba]

/-- What bytes are as a text, what comes in front of it left aside; none where they are refused. -/
def rdO (x : Bool) (kc ke : ByteArray) (a : Row) (R : List Row) : Nat → List UInt8 → Row → Option (List Int)
  | 0, l, _ => if l = [] then some [] else none
  | _ + 1, [], _ => some []
  | f + 1, b :: l, h =>
    if (x && decide (b.toNat = 27)) = true then
      if (turnS (ba (b :: l)) (a :: R) h).2 = true then rdO x kc ke a R f ((b :: l).drop 3) (turnS (ba (b :: l)) (a :: R) h).1 else none
    else if (headS (a.1 == 6) kc h b.toNat (ba (b :: l))).2 = 0 then none
    else (rdO x kc ke a R f ((b :: l).drop (headS (a.1 == 6) kc h b.toNat (ba (b :: l))).2) (if hasR ke ((headS (a.1 == 6) kc h b.toNat (ba (b :: l))).1 : Nat) = true then a else h)).map (Lib.encodeRuneZ ((headS (a.1 == 6) kc h b.toNat (ba (b :: l))).1 : Nat) ++ ·)

def okO : Except (Nat × Int) (List Int) → Option (List Int)
  | .ok o => some o
  | .error _ => none
theorem data_len (s : ByteArray) : s.data.toList.length = s.size := by simp
theorem rdS_rdO (x : Bool) (kc ke : ByteArray) (a : Row) (R : List Row) (s : ByteArray) : ∀ (f at' : Nat) (h : Row) (out : List Int), s.size - at' ≤ f →
    okO (rdS x kc ke a R s f at' h out) = (rdO x kc ke a R f (s.data.toList.drop at') h).map (out ++ ·)
  | 0, at', h, out, hf => by
    have : s.data.toList.drop at' = [] := List.drop_of_length_le (by rw [data_len]; omega)
    rw [this]
    simp [rdS, rdO, okO]
  | f + 1, at', h, out, hf => by
    have hl := data_len s
    by_cases hat : at' < s.size
    · have hd : s.data.toList.drop at' = (s[at']'hat) :: s.data.toList.drop (at' + 1) := by
        rw [List.drop_eq_getElem_cons (by omega)]
        congr 1
      rw [rdS, dif_pos hat, hd, rdO, ← hd, ← ba_ext]
      by_cases c1 : (x && decide ((s[at']'hat).toNat = 27)) = true
      · rw [if_pos c1, if_pos c1]
        by_cases c2 : (turnS (s.extract at' s.size) (a :: R) h).2 = true
        · rw [if_pos c2, if_pos c2, List.drop_drop]
          exact rdS_rdO x kc ke a R s f (at' + 3) _ out (by omega)
        · rw [if_neg c2, if_neg c2]
          rfl
      · rw [if_neg c1, if_neg c1]
        by_cases c2 : (headS (a.1 == 6) kc h (s[at']'hat).toNat (s.extract at' s.size)).2 = 0
        · rw [if_pos c2, if_pos c2]
          rfl
        · rw [if_neg c2, if_neg c2, List.drop_drop, rdS_rdO x kc ke a R s f _ _ _ (by omega), Option.map_map]
          congr 1
          funext o
          simp
    · have : s.data.toList.drop at' = [] := List.drop_of_length_le (by omega)
      rw [rdS, dif_neg hat, this, rdO]
      simp [okO]

/-- So much is enough. -/
theorem rdO_fuel (x : Bool) (kc ke : ByteArray) (a : Row) (R : List Row) : ∀ (f g : Nat) (l : List UInt8) (h : Row), l.length ≤ f → l.length ≤ g → rdO x kc ke a R f l h = rdO x kc ke a R g l h
  | 0, 0, _, _, _, _ => rfl
  | 0, g + 1, [], _, _, _ => by simp [rdO]
  | f + 1, 0, [], _, _, _ => by simp [rdO]
  | f + 1, g + 1, [], _, _, _ => by simp [rdO]
  | 0, _ + 1, _ :: _, _, h, _ => by simp at h
  | _ + 1, 0, _ :: _, _, _, h => by simp at h
  | f + 1, g + 1, b :: l, h, hf, hg => by
    simp at hf hg
    rw [rdO, rdO]
    split
    · split
      · exact rdO_fuel x kc ke a R f g _ _ (by simp; omega) (by simp; omega)
      · rfl
    · split
      · rfl
      · rename_i hn
        rw [rdO_fuel x kc ke a R f g _ _ (by simp; omega) (by simp; omega)]

theorem esc_bytes : ∀ (k : Fin 6), ∀ c ∈ (sp (3 * k.val + 2)).toList, c.toNat ∈ [27, 40, 66, 45, 65, 70, 76, 77] := by decide +kernel

theorem ba_take (l : List UInt8) (n : Nat) : ((ba l).extract 0 n).toList = l.take n := by
  rw [ByteArray.toList_eq]
  simp [ba]
theorem pre_ba (l : List UInt8) (k : Nat) (hk : k < 6) : pre (ba l) (sp (3 * k + 2)) = (decide (3 ≤ l.length) && (l.take 3 == (sp (3 * k + 2)).toList)) := by
  unfold pre
  have := esc_size ⟨k, hk⟩
  simp only at this
  rw [this, ba_size, ba_take]

/-- Behind what is no part of an escape, whether one begins ahead of it hangs on what stands ahead alone. -/
theorem pre_cut (A B : List UInt8) (e : UInt8) (he : e.toNat ∉ [27, 40, 66, 45, 65, 70, 76, 77]) (k : Nat) (hk : k < 6) : pre (ba (A ++ e :: B)) (sp (3 * k + 2)) = pre (ba A) (sp (3 * k + 2)) := by
  rw [pre_ba _ k hk, pre_ba _ k hk]
  by_cases hA : 3 ≤ A.length
  · rw [List.take_append_of_le_length hA]
    have e1 : decide (3 ≤ (A ++ e :: B).length) = true := by simp; omega
    have e2 : decide (3 ≤ A.length) = true := by simpa using hA
    rw [e1, e2]
  · have hf : decide (3 ≤ A.length) = false := by simpa using hA
    rw [hf, Bool.false_and]
    have hm : e ∈ (A ++ e :: B).take 3 := by
      rw [List.take_append]
      refine List.mem_append_right _ ?_
      obtain ⟨m, hm⟩ : ∃ m, 3 - A.length = m + 1 := ⟨3 - A.length - 1, by omega⟩
      rw [hm, List.take_succ_cons]
      exact List.mem_cons_self
    cases hb : ((A ++ e :: B).take 3 == (sp (3 * k + 2)).toList) with
    | false => rw [Bool.and_false]
    | true =>
      have := eq_of_beq hb
      rw [this] at hm
      exact absurd (esc_bytes ⟨k, hk⟩ e hm) he

theorem turn_cut (A B : List UInt8) (e : UInt8) (he : e.toNat ∉ [27, 40, 66, 45, 65, 70, 76, 77]) (R : List Row) (hR : ∀ r ∈ R, r.1 < 6) (h : Row) : turnS (ba (A ++ e :: B)) R h = turnS (ba A) R h := by
  have hl : escL (ba (A ++ e :: B)) R = escL (ba A) R := by
    induction R with
    | nil => rfl
    | cons a R ih =>
      rw [escL, escL, pre_cut A B e he a.1 (hR a (by simp)), ih (fun r hr => hR r (by simp [hr]))]
  unfold turnS
  have h0 := pre_cut A B e he 0 (by omega)
  rw [show 3 * 0 + 2 = 2 from rfl] at h0
  rw [h0, hl]
theorem turn_len {A : List UInt8} {R : List Row} (hR : ∀ r ∈ R, r.1 < 6) {h : Row} (ht : (turnS (ba A) R h).2 = true) : 3 ≤ A.length := by
  rcases Nat.lt_or_ge A.length 3 with h3 | h3
  · rw [turn_short (by rw [ba_size]; exact h3) R hR h] at ht
    simp at ht
  · exact h3

theorem ite3 {α : Type} {p1 p2 p3 q1 q2 q3 : Prop} [Decidable p1] [Decidable p2] [Decidable p3] [Decidable q1] [Decidable q2] [Decidable q3] {X Y Z W X' Y' Z' : α}
    (h1 : p1 ↔ q1) (hx : p1 → X = X') (h2 : p2 ↔ q2) (hy : p2 → Y = Y') (h3 : p3 ↔ q3) (hz : p3 → Z = Z') :
    (if p1 then X else if p2 then Y else if p3 then Z else W) = (if q1 then X' else if q2 then Y' else if q3 then Z' else W) := by
  by_cases c1 : p1
  · rw [if_pos c1, if_pos (h1.1 c1), hx c1]
  · rw [if_neg c1, if_neg (fun q => c1 (h1.2 q))]
    by_cases c2 : p2
    · rw [if_pos c2, if_pos (h2.1 c2), hy c2]
    · rw [if_neg c2, if_neg (fun q => c2 (h2.2 q))]
      by_cases c3 : p3
      · rw [if_pos c3, if_pos (h3.1 c3), hz c3]
      · rw [if_neg c3, if_neg (fun q => c3 (h3.2 q))]
theorem decodeN_cut {n m b0 b1 b2 b3 c1 c2 c3 : Nat} (hn : n ≤ m) (h1 : 1 < n → c1 = b1) (h2 : 2 < n → c2 = b2) (h3 : 3 < n → c3 = b3) (k1 : n ≤ 1 → 1 < m → ¬ c1 / 64 = 2) (k2 : n = 2 → 2 < m → ¬ c2 / 64 = 2) (k3 : n = 3 → 3 < m → ¬ c3 / 64 = 2) :
    Lib.decodeN m b0 c1 c2 c3 = Lib.decodeN n b0 b1 b2 b3 := by
  unfold Lib.decodeN
  have w1 : (1 < m ∧ c1 / 64 = 2) ↔ (1 < n ∧ b1 / 64 = 2) := by
    by_cases hh : 1 < n
    · rw [h1 hh]; exact ⟨fun q => ⟨hh, q.2⟩, fun q => ⟨by omega, q.2⟩⟩
    · exact ⟨fun q => absurd q.2 (k1 (by omega) q.1), fun q => absurd q.1 hh⟩
  have w2 : (1 < n ∧ b1 / 64 = 2) → ((2 < m ∧ c2 / 64 = 2) ↔ (2 < n ∧ b2 / 64 = 2)) := fun z => by
    by_cases hh : 2 < n
    · rw [h2 hh]; exact ⟨fun q => ⟨hh, q.2⟩, fun q => ⟨by omega, q.2⟩⟩
    · exact ⟨fun q => absurd q.2 (k2 (by omega) q.1), fun q => absurd q.1 hh⟩
  have w3 : (2 < n ∧ b2 / 64 = 2) → ((3 < m ∧ c3 / 64 = 2) ↔ (3 < n ∧ b3 / 64 = 2)) := fun z => by
    by_cases hh : 3 < n
    · rw [h3 hh]; exact ⟨fun q => ⟨hh, q.2⟩, fun q => ⟨by omega, q.2⟩⟩
    · exact ⟨fun q => absurd q.2 (k3 (by omega) q.1), fun q => absurd q.1 hh⟩
  by_cases c0 : b0 < 128
  · rw [if_pos c0, if_pos c0]
  · rw [if_neg c0, if_neg c0]
    refine ite3 ⟨fun q => ⟨q.1, w1.1 q.2⟩, fun q => ⟨q.1, w1.2 q.2⟩⟩ (fun q => ?_) ⟨fun q => ⟨q.1, w1.1 q.2.1, (w2 (w1.1 q.2.1)).1 q.2.2⟩, fun q => ⟨q.1, w1.2 q.2.1, (w2 q.2.1).2 q.2.2⟩⟩ (fun q => ?_)
      ⟨fun q => ⟨q.1, w1.1 q.2.1, (w2 (w1.1 q.2.1)).1 q.2.2.1, (w3 ((w2 (w1.1 q.2.1)).1 q.2.2.1)).1 q.2.2.2⟩, fun q => ⟨q.1, w1.2 q.2.1, (w2 q.2.1).2 q.2.2.1, (w3 q.2.2.1).2 q.2.2.2⟩⟩ (fun q => ?_)
    · rw [h1 (w1.1 q.2).1]
    · rw [h1 (w1.1 q.2.1).1, h2 ((w2 (w1.1 q.2.1)).1 q.2.2).1]
    · rw [h1 (w1.1 q.2.1).1, h2 ((w2 (w1.1 q.2.1)).1 q.2.2.1).1, h3 ((w3 ((w2 (w1.1 q.2.1)).1 q.2.2.1)).1 q.2.2.2).1]

theorem bsT_ba {l : List UInt8} {i : Nat} (h : i < l.length) : bsT (ba l) i = (l[i]'h).toNat := by
  rw [bsT_at (show i < (ba l).size by rw [ba_size]; exact h), ba_at _ h]
theorem bsT_app {A B : List UInt8} {i : Nat} (h : i < A.length) : bsT (ba (A ++ B)) i = bsT (ba A) i := by
  rw [bsT_ba (show i < (A ++ B).length by simp; omega), bsT_ba h, List.getElem_append_left h]
theorem bsT_mid {A B : List UInt8} {e : UInt8} : bsT (ba (A ++ e :: B)) A.length = e.toNat := by
  rw [bsT_ba (by simp)]
  simp

/-- Behind a byte of ASCII, the rune ahead of it hangs on what stands ahead alone. -/
theorem uni_cut {A B : List UInt8} {e : UInt8} (he : e.toNat < 128) (hA : 0 < A.length) : uHead (ba (A ++ e :: B)) = uHead (ba A) := by
  have hm : (ba (A ++ e :: B)).size = A.length + 1 + B.length := by rw [ba_size]; simp; omega
  have hn : (ba A).size = A.length := ba_size A
  have hme := bsT_mid (A := A) (B := B) (e := e)
  have e1 : Lib.decodeGo (ba (A ++ e :: B)) = Lib.decodeGo (ba A) := by
    rw [decGo (by omega), decGo (by omega), hm, hn, bsT_app hA]
    refine decodeN_cut (by omega) (fun h => bsT_app h) (fun h => bsT_app h) (fun h => bsT_app h) (fun h _ => ?_) (fun h _ => ?_) (fun h _ => ?_)
    · rw [show (1 : Nat) = A.length by omega, hme]; omega
    · rw [show (2 : Nat) = A.length by omega, hme]; omega
    · rw [show (3 : Nat) = A.length by omega, hme]; omega
  unfold uHead
  rw [e1]
theorem uni_len {A : List UInt8} : (uHead (ba A)).2 ≤ A.length := by
  unfold uHead
  split
  · simp
  · have := Lib.decodeGo_le_size (ba A)
    rw [ba_size] at this
    exact this

theorem head_cut {A B : List UInt8} {e : UInt8} (he : e.toNat < 128) (hA : 0 < A.length) (u : Bool) (kc : ByteArray) (h : Row) (b : Nat) : headS u kc h b (ba (A ++ e :: B)) = headS u kc h b (ba A) := by
  unfold headS
  rw [uni_cut he hA]
theorem head_len {A : List UInt8} (hA : 0 < A.length) (u : Bool) (kc : ByteArray) (h : Row) (b : Nat) : (headS u kc h b (ba A)).2 ≤ A.length := by
  unfold headS
  split
  · exact hA
  · split
    · exact uni_len
    · split
      · exact hA
      · simp

/-- A text is read piece by piece. -/
theorem rdO_cut (x : Bool) (kc ke : ByteArray) (a : Row) (R : List Row) (e : UInt8) (B : List UInt8) (hx6 : x = true → ∀ r ∈ a :: R, r.1 < 6) (he : e.toNat < 128) (hee : e.toNat ∉ [27, 40, 66, 45, 65, 70, 76, 77])
    (hp : plainR kc (e.toNat : Int) = true) (hk : hasR ke (e.toNat : Int) = true) :
    ∀ (f : Nat) (A : List UInt8) (h : Row) (o : List Int), (A ++ e :: B).length ≤ f → rdO x kc ke a R f (A ++ e :: B) h = some o →
      ∃ oA oB, rdO x kc ke a R A.length A h = some oA ∧ rdO x kc ke a R B.length B a = some oB ∧ o = oA ++ (e.toNat : Int) :: oB
  | 0, A, h, o, hf, hr => by simp at hf
  | f + 1, [], h, o, hf, hr => by
    simp at hf
    have h27 : ¬ e.toNat = 27 := fun q => hee (by simp [q])
    rw [List.nil_append, rdO, if_neg (by simp [h27])] at hr
    have hh : headS (a.1 == 6) kc h e.toNat (ba (e :: B)) = (e.toNat, 1) := by unfold headS; rw [if_pos hp]
    rw [hh, if_neg (by simp)] at hr
    simp only at hr
    rw [if_pos hk, enc_low (by omega) (by omega)] at hr
    obtain ⟨oB, hB, rfl⟩ := Option.map_eq_some_iff.1 hr
    refine ⟨[], oB, by simp [rdO], ?_, rfl⟩
    rw [← hB]
    exact rdO_fuel x kc ke a R _ _ _ _ (Nat.le_refl _) (by omega)
  | f + 1, b :: A, h, o, hf, hr => by
    simp at hf
    have hz : 0 < (b :: A).length := by simp
    rw [List.cons_append, rdO, ← List.cons_append] at hr
    by_cases c1 : (x && decide (b.toNat = 27)) = true
    · have hx : x = true := by simp at c1; exact c1.1
      rw [if_pos c1, turn_cut _ B e hee _ (hx6 hx) h] at hr
      by_cases c2 : (turnS (ba (b :: A)) (a :: R) h).2 = true
      · rw [if_pos c2] at hr
        have h3 := turn_len (hx6 hx) c2
        rw [List.drop_append_of_le_length h3] at hr
        obtain ⟨oA, oB, hA, hB, ho⟩ := rdO_cut x kc ke a R e B hx6 he hee hp hk f ((b :: A).drop 3) _ o (by simp; omega) hr
        refine ⟨oA, oB, ?_, hB, ho⟩
        rw [← hA]
        rw [List.length_cons, rdO, if_pos c1, if_pos c2]
        exact rdO_fuel x kc ke a R _ _ _ _ (by simp) (by simp)
      · rw [if_neg c2] at hr; cases hr
    · rw [if_neg c1, head_cut he hz] at hr
      by_cases c2 : (headS (a.1 == 6) kc h b.toNat (ba (b :: A))).2 = 0
      · rw [if_pos c2] at hr; cases hr
      · rw [if_neg c2] at hr
        have hl := head_len hz (a.1 == 6) kc h b.toNat
        rw [List.drop_append_of_le_length hl] at hr
        obtain ⟨o1, h1, rfl⟩ := Option.map_eq_some_iff.1 hr
        obtain ⟨oA, oB, hA, hB, ho⟩ := rdO_cut x kc ke a R e B hx6 he hee hp hk f _ _ o1 (by rw [List.length_append, List.length_drop, List.length_cons, List.length_cons]; omega) h1
        refine ⟨Lib.encodeRuneZ ((headS (a.1 == 6) kc h b.toNat (ba (b :: A))).1 : Nat) ++ oA, oB, ?_, hB, by rw [ho]; simp⟩
        rw [List.length_cons, rdO, if_neg c1, if_neg c2]
        rw [rdO_fuel x kc ke a R _ _ _ _ (by rw [List.length_drop, List.length_cons]; omega) (Nat.le_refl _), hA]
        rfl
end Go.Proofs.YtegfgbcimlacbaaGreatDoor
