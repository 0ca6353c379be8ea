import Derived.Test.YtdggplhkeekdjaaGreatDoorLp
import Derived.Test.YtdggplhkeekdjaaGreatDoorKk
import Derived.Lib.RuneCountTail
/-
  DERIVED. Characters: the document's reading and the model's.
-/
namespace Go.Proofs.YtdggplhkeekdjaaGreatDoor.Ck
open Go Go.Proofs

theorem byt (s : ByteArray) (i : Nat) : (s.get! i).toNat < 256 := UInt8.toNat_lt _
set_option maxHeartbeats 4000000 in
/-- What the document reads where a character begins, in the model's words. -/
theorem rn_dec (s : ByteArray) (i : Nat) (h : i < s.size) : (rn s i).2 = (Utf8.decode s i).2 ∧ (rn s i).1 = if (Utf8.decode s i).1 = 65533 ∧ (Utf8.decode s i).2 = 1 then (-1 : Int) else ((Utf8.decode s i).1 : Nat) := by
  rw [Lib.decode_at]
  unfold rn rnL
  simp only [accR, okR, Nat.zero_add, Bool.true_and, Bool.and_eq_true, decide_eq_true_eq, Nat.reduceAdd]
  have b0 := byt s i
  have b1 := byt s (i + 1)
  have b2 := byt s (i + 2)
  have b3 := byt s (i + 3)
  generalize (s.get! i).toNat = x0 at *
  generalize (s.get! (i + 1)).toNat = x1 at *
  generalize (s.get! (i + 2)).toNat = x2 at *
  generalize (s.get! (i + 3)).toNat = x3 at *
  generalize hn : s.size = n at *
  unfold Lib.decodeN
  by_cases c0 : x0 < 128
  · rw [if_pos c0, if_pos c0]
    simp only [true_and]
    rw [if_neg (by omega)]
  rw [if_neg c0, if_neg c0]
  by_cases c1 : 194 ≤ x0 ∧ x0 ≤ 223
  · rw [if_pos c1]
    repeat' split
    all_goals first | (exfalso; omega) | (constructor <;> simp <;> done) | (constructor <;> simp <;> omega)
  rw [if_neg c1]
  by_cases c2 : 224 ≤ x0 ∧ x0 ≤ 239
  · rw [if_pos c2]
    repeat' split
    all_goals first | (exfalso; omega) | (constructor <;> simp <;> done) | (constructor <;> simp <;> omega)
  rw [if_neg c2]
  by_cases c3 : 240 ≤ x0 ∧ x0 ≤ 244
  · rw [if_pos c3]
    repeat' split
    all_goals first | (exfalso; omega) | (constructor <;> simp <;> done) | (constructor <;> simp <;> omega)
  rw [if_neg c3]
  repeat' split
  all_goals first | (exfalso; omega) | (constructor <;> simp <;> done) | (constructor <;> simp <;> omega)
theorem dec_one (s : ByteArray) (i : Nat) (h : (s.get! i).toNat < 128) : Utf8.decode s i = ((s.get! i).toNat, 1) := by
  rw [Lib.decode_at]
  unfold Lib.decodeN
  rw [if_pos h]
theorem dec_big (s : ByteArray) (i : Nat) (h : ¬ (s.get! i).toNat < 128) : 128 ≤ (Utf8.decode s i).1 := by
  rw [Lib.decode_at]
  unfold Lib.decodeN
  rw [if_neg h]
  repeat' split
  all_goals simp only
  all_goals omega
theorem dec_top (s : ByteArray) (i : Nat) : (Utf8.decode s i).1 ≤ 1114111 := by
  rw [Lib.decode_at]
  unfold Lib.decodeN
  repeat' split
  all_goals simp only
  all_goals omega
end Go.Proofs.YtdggplhkeekdjaaGreatDoor.Ck

/-
  DERIVED. Which characters are refused: both ways are one.
-/
namespace Go.Proofs.YtdggplhkeekdjaaGreatDoor.Ck
open Go Go.Proofs

/-- Characters refused: the program's way and the document's, for texts in the set's own characters. -/
theorem wc_chars (K Q : Int → Bool) (hK : ∀ c : Nat, c ≤ 1114111 → K c = Q c) (hQ : Q (-1) = false) (s : ByteArray) : ∀ f i, wcP K s f i = bcC Q s f i
  | 0, _ => rfl
  | f + 1, i => by
    rw [wcP, bcC]
    by_cases hi : i < s.size
    · rw [if_pos hi, if_pos hi]
      obtain ⟨r2, r1⟩ := rn_dec s i hi
      rw [r2, r1, wc_chars K Q hK hQ s f]
      by_cases hx : (Utf8.decode s i).1 = 65533 ∧ (Utf8.decode s i).2 = 1
      · rw [if_pos hx, if_neg (by simp [hx]), if_neg (by simp [hQ])]
      · rw [if_neg hx, hK _ (dec_top s i)]
        simp only [hx, not_false_eq_true, and_true]
    · rw [if_neg hi, if_neg hi]
/-- .. and for texts of ASCII. -/
theorem wc_bytes (K : Int → Bool) (P : Nat → Bool) (hK : ∀ c : Nat, c < 128 → K c = P c) (hb : ∀ c : Nat, 128 ≤ c → K c = false) (hP : ∀ c : Nat, 128 ≤ c → P c = false) (s : ByteArray) : ∀ f i, wcP K s f i = bcB P s f i
  | 0, _ => rfl
  | f + 1, i => by
    rw [wcP, bcB]
    by_cases hi : i < s.size
    · rw [if_pos hi, if_pos hi]
      by_cases h : (s.get! i).toNat < 128
      · rw [dec_one s i h]
        simp only
        rw [hK _ h, wc_bytes K P hK hb hP s f]
        have e : ¬ ((s.get! i).toNat = 65533) := by omega
        simp only [e, not_false_eq_true, and_true]
      · rw [hb _ (dec_big s i h), hP _ (by omega), if_neg (by simp), if_neg (by simp)]
    · rw [if_neg hi, if_neg hi]
theorem hasR_big (m : ByteArray) (c : Nat) (h : 128 ≤ c) : hasR m (c : Int) = false := by
  unfold hasR
  rw [decide_eq_false (by omega)]
  rfl
theorem dgI_big (c : Nat) (h : 128 ≤ c) : dgI (c : Int) = false := by
  unfold dgI
  have : ¬ ((c : Int) ≤ 57) := by omega
  simp [this]
theorem doI_big (m : ByteArray) (c : Nat) (h : 128 ≤ c) : doI m (c : Int) = false := by
  unfold doI
  rw [hasR_big m c h, dgI_big c h]; rfl
theorem dg_big (c : Nat) (h : 128 ≤ c) : dg c = false := by
  unfold dg
  have : ¬ (c ≤ 57) := by omega
  simp [this]
theorem amB_big : ∀ (l : List UInt8) (c : Nat), 128 ≤ c → (∀ b ∈ l, b.toNat < 128) → amB c l = false
  | [], c, _, _ => rfl
  | b :: l, c, h, hl => by
    rw [amB, amB_big l c h (fun x hx => hl x (List.mem_cons_of_mem _ hx))]
    have : ¬ (b.toNat = c) := by have := hl b (List.mem_cons_self ..); omega
    simp [this]
def wcT (k : Int) : Int → Bool := if k = 1 then tiI else if k = 2 then doI ageM else if k = 4 then cdI else if k = 5 then dgI else if k = 6 then doI decimalM else if k = 7 then doI momM else if k = 10 then doI wholeM else if k = 21 then doI pointedM else if k = 23 then doI pointedM else lkI
theorem plain_small : ∀ c : Nat, c < 128 → tiI (c : Int) = plB 1 c ∧ doI ageM (c : Int) = plB 2 c ∧ cdI (c : Int) = plB 4 c ∧ dgI (c : Int) = plB 5 c ∧ doI decimalM (c : Int) = plB 6 c ∧ doI momM (c : Int) = plB 7 c ∧ doI wholeM (c : Int) = plB 10 c ∧ doI pointedM (c : Int) = plB 21 c ∧ doI pointedM (c : Int) = plB 23 c ∧ lkI (c : Int) = plB 26 c := by decide +kernel
theorem plain_big (c : Nat) (h : 128 ≤ c) : plB 1 c = false ∧ plB 2 c = false ∧ plB 4 c = false ∧ plB 5 c = false ∧ plB 6 c = false ∧ plB 7 c = false ∧ plB 10 c = false ∧ plB 21 c = false ∧ plB 23 c = false ∧ plB 26 c = false := by
  have e1 : ¬ (c ≤ 126) := by omega
  have e2 : ¬ (c ≤ 90) := by omega
  have e3 : ¬ (c = 46) := by omega
  simp [plB, dg_big c h, e1, e2, e3, amB_big _ c h]
theorem ti_big (c : Nat) (h : 128 ≤ c) : tiI (c : Int) = false ∧ lkI (c : Int) = false ∧ cdI (c : Int) = false := by
  have e1 : ¬ ((c : Int) < 127) := by omega
  have e2 : ((c : Int) == 32) = false := beq_eq_false_iff_ne.2 (by omega)
  have e3 : ¬ ((c : Int) ≤ 90) := by omega
  simp [tiI, lkI, cdI, cpI, doI_big _ c h, e1, e2, e3]
theorem ln_ch (c : Nat) : lnI (c : Int) = chB false (c : Int) := by
  unfold lnI chB
  rw [if_neg (by omega)]
  cases ctl (c : Int) <;> simp
theorem prose_small : ∀ c : Nat, c < 160 → prI (c : Int) = chB true (c : Int) := by decide +kernel
theorem pr_ch (c : Nat) : prI (c : Int) = chB true (c : Int) := by
  rcases Nat.lt_or_ge c 160 with h | h
  · exact prose_small c h
  · have e : ctl (c : Int) = false := by
      unfold ctl
      have h1 : ¬ ((c : Int) < 32) := by omega
      have h2 : ¬ ((c : Int) ≤ 159) := by omega
      simp [h1, h2]
    unfold prI chB
    rw [e, if_neg (by omega)]; simp
end Go.Proofs.YtdggplhkeekdjaaGreatDoor.Ck

/-
  DERIVED. Lengths: bytes and characters.
-/
namespace Go.Proofs.YtdggplhkeekdjaaGreatDoor.Ck
open Go Go.Proofs

/-! ### lengths -/
theorem lg_bytes (mo : Nat) (s : ByteArray) : ∀ f i n, i ≤ s.size → s.size ≤ i + f → lgG false false mo s f i n = decide (mo < n + (s.size - i))
  | 0, i, n, h1, h2 => by
    rw [lgG]
    have : s.size - i = 0 := by omega
    rw [this]; rfl
  | f + 1, i, n, h1, h2 => by
    rw [lgG]
    by_cases hi : i < s.size
    · rw [if_pos hi]
      by_cases hn : mo + 1 ≤ n
      · rw [if_pos hn, eq_comm, decide_eq_true_eq]; omega
      · rw [if_neg hn, lg_bytes mo s f _ _ (by unfold wd; simp; omega) (by unfold wd; simp; omega)]
        unfold wd
        simp only [Bool.false_eq_true, false_and, if_false]
        congr 1
        apply propext
        omega
    · rw [if_neg hi]
      have : s.size - i = 0 := by omega
      rw [this]; rfl
theorem lg_runes (mo : Nat) (s : ByteArray) : ∀ f i n, s.size ≤ i + f → lgG false true mo s f i n = decide (mo < n + Lib.runeCountFrom s f i)
  | 0, i, n, h2 => by rw [lgG]; rfl
  | f + 1, i, n, h2 => by
    rw [lgG]
    by_cases hi : i < s.size
    · have hw := dec_width s i hi
      have e : wd true s i = (Utf8.decode s i).2 := by unfold wd; rw [if_pos rfl, (rn_dec s i hi).1]
      have er : Lib.runeCountFrom s (f + 1) i = 1 + Lib.runeCountFrom s f (i + (Utf8.decode s i).2) := by
        rw [Lib.runeCountFrom, if_pos hi]
      rw [if_pos hi, er]
      by_cases hn : mo + 1 ≤ n
      · rw [if_pos hn, eq_comm, decide_eq_true_eq]; omega
      · rw [if_neg hn, e, lg_runes mo s f _ _ (by omega)]
        simp only [Bool.false_eq_true, false_and, if_false]
        congr 1
        apply propext
        omega
    · rw [if_neg hi, Lib.runeCountFrom_end s _ _ hi]; rfl
theorem mx_any (mo : Nat) : ∀ (xs : List ByteArray) (m : Nat), decide (mo < mxG xs m) = (decide (mo < m) || xs.any fun x => decide (mo < Lib.runeCount x))
  | [], m => by rw [mxG, List.any_nil, Bool.or_false]
  | x :: xs, m => by
    rw [mxG, mx_any mo xs, List.any_cons]
    by_cases h1 : m < Lib.runeCount x
    · rw [if_pos h1]
      by_cases h2 : mo < m
      · have : mo < Lib.runeCount x := by omega
        simp [h2, this]
      · simp [h2]
    · rw [if_neg h1]
      by_cases h2 : mo < Lib.runeCount x
      · have : mo < m := by omega
        simp [h2, this]
      · simp [h2]
/-- A character read off a text that ends at a place where none goes on. -/
theorem decN_cut (n k b0 b1 b2 b3 : Nat) (hk : k ≤ n) (h0 : 1 ≤ k) (h1 : k = 1 → 1 < n → b1 / 64 ≠ 2) (h2 : k = 2 → 2 < n → b2 / 64 ≠ 2) (h3 : k = 3 → 3 < n → b3 / 64 ≠ 2) : Lib.decodeN n b0 b1 b2 b3 = Lib.decodeN k b0 b1 b2 b3 := by
  unfold Lib.decodeN
  by_cases e1 : 1 < k
  · have e1' : 1 < n := by omega
    by_cases e2 : 2 < k
    · have e2' : 2 < n := by omega
      by_cases e3 : 3 < k
      · have e3' : 3 < n := by omega
        simp only [e1, e1', e2, e2', e3, e3']
      · have hk3 : k = 3 := by omega
        have hb : ¬ (3 < n ∧ b3 / 64 = 2) := fun ⟨p, q⟩ => h3 hk3 p q
        simp only [e1, e1', e2, e2', e3, hb, false_and, and_false]
    · have hk2 : k = 2 := by omega
      have hb : ¬ (2 < n ∧ b2 / 64 = 2) := fun ⟨p, q⟩ => h2 hk2 p q
      simp only [e1, e1', e2, hb, false_and, and_false]
  · have hk1 : k = 1 := by omega
    have hb : ¬ (1 < n ∧ b1 / 64 = 2) := fun ⟨p, q⟩ => h1 hk1 p q
    simp only [e1, hb, false_and, and_false]
/-- The bytes of a list of bytes. -/
def bl (l : List UInt8) : ByteArray := ⟨l.toArray⟩
theorem bl_size (l : List UInt8) : (bl l).size = l.length := by simp [bl, ByteArray.size]
theorem bl_get (l : List UInt8) (i : Nat) (h : i < l.length) : (bl l).get! i = l[i] := by
  rw [← get_get! (bl l) i (by rw [bl_size]; exact h)]
  rfl
/-- How many bytes the first character of a text of bytes has. -/
def wL (l : List UInt8) : Nat := (Utf8.decode (bl l) 0).2
theorem dec_app (p q : List UInt8) (hp : p ≠ []) (hq : ∀ b r, q = b :: r → b.toNat / 64 ≠ 2) : Utf8.decode (bl (p ++ q)) 0 = Utf8.decode (bl p) 0 := by
  rw [Lib.decode_at, Lib.decode_at, bl_size, bl_size, List.length_append]
  have hl : 0 < p.length := List.length_pos_iff.2 hp
  have g : ∀ i, i < p.length → (bl (p ++ q)).get! i = (bl p).get! i := fun i hi => by
    rw [bl_get _ i (by rw [List.length_append]; omega), bl_get _ i hi, List.getElem_append_left hi]
  have c : ∀ i, i = p.length → i < p.length + q.length - 0 → ((bl (p ++ q)).get! i).toNat / 64 ≠ 2 := fun i hi h => by
    rw [bl_get _ i (by rw [List.length_append]; omega), List.getElem_append_right (by omega)]
    cases q with
    | nil => simp at h; omega
    | cons b r =>
      have : i - p.length = 0 := by omega
      simp only [this, List.getElem_cons_zero]
      exact hq b r rfl
  rw [g 0 hl]
  rw [decN_cut (p.length + q.length - 0) (p.length - 0) _ _ _ _ (by omega) (by omega) (fun h1 h2 => c 1 (by omega) h2) (fun h1 h2 => c 2 (by omega) h2) (fun h1 h2 => c 3 (by omega) h2)]
  exact decN_same _ _ _ _ _ _ _ _ (fun h => by rw [g _ (by omega)]) (fun h => by rw [g _ (by omega)]) (fun h => by rw [g _ (by omega)])
end Go.Proofs.YtdggplhkeekdjaaGreatDoor.Ck
