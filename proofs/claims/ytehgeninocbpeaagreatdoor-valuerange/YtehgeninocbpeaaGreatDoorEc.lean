import Derived.Test.YtehgeninocbpeaaGreatDoorEb
/-
  DERIVED. A day's text, read at any place; what a key of days takes (pure).
-/
namespace Go.Proofs.YtehgeninocbpeaaGreatDoor.Tm
open Go Go.Proofs Go.RowKit

theorem get_l {s : ByteArray} {P l : List UInt8} (hs : s.data.toList = P ++ l) (k : Nat) (h : k < l.length) : P.length + k < s.size ∧ s.get! (P.length + k) = l[k] := by
  have hz : s.size = P.length + l.length := by
    have := congrArg List.length hs
    rw [Array.length_toList, List.length_append] at this
    exact this
  have hlt : P.length + k < s.size := by omega
  refine ⟨hlt, ?_⟩
  rw [← get_get! s _ hlt]
  have e : s[P.length + k] = s.data.toList[P.length + k]'(by rw [Array.length_toList]; exact hlt) := by rw [Array.getElem_toList]; rfl
  rw [e]
  simp only [hs]
  rw [List.getElem_append_right (by omega)]
  simp
theorem isD_of {s : ByteArray} {k : Nat} {b : UInt8} (h : k < s.size) (e : s.get! k = b) (hb : 48 ≤ b.toNat ∧ b.toNat ≤ 57) : isD s k = true := by
  unfold isD
  rw [e]
  simp [h, hb]
theorem cnt_of {s : ByteArray} : ∀ (k a : Nat), (∀ i, i < k → isD s (a + i) = true) → cnt s a k = k
  | 0, _, _ => rfl
  | k + 1, a, h => by
    rw [cnt, if_pos (by have := h 0 (by omega); rwa [Nat.add_zero] at this), cnt_of k (a + 1) (fun i hi => by have := h (i + 1) (by omega); rwa [show a + (i + 1) = a + 1 + i by omega] at this)]
    omega
theorem ext_mid {s : ByteArray} {P Q R : List UInt8} (hs : s.data.toList = P ++ (Q ++ R)) : (s.extract P.length (P.length + Q.length)).data.toList = Q := by
  rw [ByteArray.data_extract, Array.toList_extract, List.extract_eq_take_drop, hs, List.drop_left, show P.length + Q.length - P.length = Q.length by omega, List.take_left]
theorem piece_of {s : ByteArray} {P R : List UInt8} {n k : Nat} (hs : s.data.toList = P ++ (pd n k ++ R)) (hn : n < 10 ^ k) : cnt s P.length k = k ∧ nv s P.length k = n := by
  refine ⟨cnt_of k _ fun i hi => ?_, ?_⟩
  · obtain ⟨h1, h2⟩ := get_l hs i (by rw [List.length_append, pd_len]; omega)
    refine isD_of h1 h2 (pd_digits k n _ ?_)
    rw [List.getElem_append_left (by rw [pd_len]; omega)]
    exact List.getElem_mem _
  · unfold nv val
    have := ext_mid hs
    rw [pd_len] at this
    rw [this]
    exact val_pd k n hn

/-- A piece that is read well. -/
theorem pc_of {s : ByteArray} {S : Mst} {P R : List UInt8} {n k : Nat} (hs : s.data.toList = P ++ (pd n k ++ R)) (hn : n < 10 ^ k) (ha : S.a = P.length) (hb : S.b = false) : pcC s S k = k ∧ pcN s S k = n := by
  obtain ⟨h1, h2⟩ := piece_of hs hn
  have e : pcC s S k = k := by unfold pcC; rw [if_neg (by rw [hb]; simp), ha, h1]
  refine ⟨e, ?_⟩
  unfold pcN
  rw [e, ha, h2]
theorem pcO_of {s : ByteArray} {S : Mst} {k n : Nat} {lo hi : Int} (e : pcN s S k = n) (ho : S.o = none) (h1 : lo ≤ (n : Int)) (h2 : (n : Int) ≤ hi) : pcO s S k lo hi = none := by
  unfold pcO
  rw [e, ho, decide_eq_false (by omega), decide_eq_false (by omega)]
  rfl

structure Rd (S : Mst) (a y m d : Nat) : Prop where
  a : S.a = a
  b : S.b = false
  o : S.o = none
  y : S.y = y
  m : S.m = m
  d : S.d = d
  dp : S.dp = 3
  t : S.h = 0 ∧ S.mi = 0 ∧ S.sc = 0 ∧ S.mc = 0 ∧ S.p = 0 ∧ S.z = 0

/-- Where a reading stands that went well. -/
structure Wl (S : Mst) (a : Nat) : Prop where
  a : S.a = a
  b : S.b = false
  o : S.o = none
theorem year_of {s : ByteArray} {S : Mst} {P R : List UInt8} {n : Nat} (hs : s.data.toList = P ++ (pd n 4 ++ R)) (h1 : 1 ≤ n) (h2 : n ≤ 9999) (w : Wl S P.length) : Wl (yearS s S) (P ++ pd n 4).length ∧ (yearS s S).y = n := by
  obtain ⟨c1, n1⟩ := pc_of (S := S) hs (show n < 10000 by omega) w.a w.b
  refine ⟨⟨?_, ?_, pcO_of n1 w.o (by omega) (by omega)⟩, n1⟩
  · show S.a + pcC s S 4 = _
    rw [c1, w.a, List.length_append, pd_len]
  · show (S.b || decide (pcC s S 4 < 4)) = false
    rw [c1, w.b]; rfl
theorem month_of {s : ByteArray} {S : Mst} {P R : List UInt8} {n : Nat} (hs : s.data.toList = P ++ (pd n 2 ++ R)) (h1 : 1 ≤ n) (h2 : n ≤ 12) (w : Wl S P.length) : Wl (monthS s S) (P ++ pd n 2).length ∧ (monthS s S).m = n := by
  obtain ⟨c1, n1⟩ := pc_of (S := S) hs (show n < 100 by omega) w.a w.b
  refine ⟨⟨?_, ?_, pcO_of n1 w.o (by omega) (by omega)⟩, n1⟩
  · show S.a + pcC s S 2 = _
    rw [c1, w.a, List.length_append, pd_len]
  · show (S.b || decide (pcC s S 2 < 2)) = false
    rw [c1, w.b]; rfl
theorem day_of {s : ByteArray} {S : Mst} {P R : List UInt8} {n : Nat} (hs : s.data.toList = P ++ (pd n 2 ++ R)) (h1 : 1 ≤ n) (h2 : n ≤ 28) (hm1 : 1 ≤ S.m) (hm2 : S.m ≤ 12) (w : Wl S P.length) : Wl (dayS s S) (P ++ pd n 2).length ∧ (dayS s S).d = n := by
  obtain ⟨c1, n1⟩ := pc_of (S := S) hs (show n < 100 by omega) w.a w.b
  have hmd := md28 (y := S.y) hm1 hm2
  refine ⟨⟨?_, ?_, pcO_of n1 w.o (by omega) (by omega)⟩, n1⟩
  · show S.a + pcC s S 2 = _
    rw [c1, w.a, List.length_append, pd_len]
  · show (S.b || decide (pcC s S 2 < 2)) = false
    rw [c1, w.b]; rfl

theorem date_of {s : ByteArray} {P : List UInt8} {y m d : Nat} (h : D3 y m d) (hs : s.data.toList = P ++ (txt y m d).data.toList) : Rd (dateF s P.length) (P.length + 8) y m d ∧ s.size = P.length + 8 := by
  rw [txt_list] at hs
  have hz : s.size = P.length + 8 := by
    have := congrArg List.length hs
    rw [Array.length_toList, List.length_append, List.length_append, List.length_append, pd_len, pd_len, pd_len] at this
    exact this
  have s1 : s.data.toList = P ++ (pd y 4 ++ (pd m 2 ++ pd d 2)) := by rw [hs, List.append_assoc]
  have s2 : s.data.toList = (P ++ pd y 4) ++ (pd m 2 ++ pd d 2) := by rw [s1, List.append_assoc]
  have s3 : s.data.toList = (P ++ pd y 4 ++ pd m 2) ++ (pd d 2 ++ []) := by rw [s2]; simp
  unfold dateF
  have t0 : (stA P.length).h = 0 ∧ (stA P.length).mi = 0 ∧ (stA P.length).sc = 0 ∧ (stA P.length).mc = 0 ∧ (stA P.length).p = 0 ∧ (stA P.length).z = 0 := ⟨rfl, rfl, rfl, rfl, rfl, rfl⟩
  have w0 : Wl (stA P.length) P.length := ⟨rfl, rfl, rfl⟩
  generalize stA P.length = S0 at *
  obtain ⟨w1, e1⟩ := year_of s1 h.y1 h.y9 w0
  have t1 : (yearS s S0).h = 0 ∧ (yearS s S0).mi = 0 ∧ (yearS s S0).sc = 0 ∧ (yearS s S0).mc = 0 ∧ (yearS s S0).p = 0 ∧ (yearS s S0).z = 0 := t0
  generalize yearS s S0 = S1 at *
  obtain ⟨w2, e2⟩ := month_of s2 h.m1 h.m2 w1
  have t2 : (monthS s S1).h = 0 ∧ (monthS s S1).mi = 0 ∧ (monthS s S1).sc = 0 ∧ (monthS s S1).mc = 0 ∧ (monthS s S1).p = 0 ∧ (monthS s S1).z = 0 := t1
  have e1' : (monthS s S1).y = y := e1
  generalize monthS s S1 = S2 at *
  obtain ⟨w3, e3⟩ := day_of s3 h.d1 h.d2 (by rw [e2]; exact h.m1) (by rw [e2]; exact h.m2) w2
  have t3 : (dayS s S2).h = 0 ∧ (dayS s S2).mi = 0 ∧ (dayS s S2).sc = 0 ∧ (dayS s S2).mc = 0 ∧ (dayS s S2).p = 0 ∧ (dayS s S2).z = 0 := t2
  have e1'' : (dayS s S2).y = y := e1'
  have e2' : (dayS s S2).m = m := e2
  have e4 : (dayS s S2).dp = 3 := rfl
  generalize dayS s S2 = S3 at *
  exact ⟨⟨by rw [w3.a, List.length_append, List.length_append, List.length_append, pd_len, pd_len, pd_len], w3.b, w3.o, e1'', e2', e3, e4, t3⟩, hz⟩

/-- The own span of a day's text. -/
theorem ow_of {s : ByteArray} {P : List UInt8} {y m d : Nat} (h : D3 y m d) (hs : s.data.toList = P ++ (txt y m d).data.toList) : oR 5 s P.length = none ∧ ow 5 s P.length = ((num y m d : Int) * 87840000000, (num y m d : Int) * 87840000000 + 87839999999) := by
  obtain ⟨r, hz⟩ := date_of h hs
  have e : rdS 5 s P.length = dateF s P.length := if_pos rfl
  have ho : oR 5 s P.length = none := by
    unfold oR rdO fmO
    rw [e, if_neg (by rw [r.b, r.a]; simp; omega), r.o]
    rfl
  refine ⟨ho, ?_⟩
  unfold ow
  rw [if_pos ho, e]
  obtain ⟨t1, t2, t3, t4, t5, t6⟩ := r.t
  have f : fS (dateF s P.length) = (num y m d : Int) * 87840000000 := by
    unfold fS fI
    rw [r.y, r.m, r.d, t1, t2, t3, t4, t6]
    simp [tt]
  unfold lS
  rw [f]
  unfold oT
  rw [r.dp, t5, if_neg (by decide), if_neg (by decide)]
  have e5 : tk 0 = 87840000000 := by decide
  rw [e5]
  generalize (num y m d : Int) * 87840000000 = A
  rw [show A + 87840000000 - 1 = A + 87839999999 by omega]

theorem idx_at (X R : List UInt8) (c : UInt8) (h : c ∉ X) : Lib.indexByte (X ++ c :: R) c = X.length := by
  induction X with
  | nil => simp [Lib.indexByte]
  | cons b X ih =>
    have hb : ¬ b = c := fun e => h (by rw [e]; simp)
    have ih := ih (fun hc => h (List.mem_cons_of_mem _ hc))
    rw [List.cons_append, Lib.indexByte, ih]
    simp [hb]
theorem idx_no (X : List UInt8) (c : UInt8) (h : c ∉ X) : Lib.indexByte X c = -1 := by
  induction X with
  | nil => rfl
  | cons b X ih =>
    have hb : ¬ b = c := fun e => h (by rw [e]; simp)
    have ih := ih (fun hc => h (List.mem_cons_of_mem _ hc))
    rw [Lib.indexByte, ih]
    simp [hb]
theorem txt_dig (y m d : Nat) : ∀ b ∈ (txt y m d).data.toList, 48 ≤ b.toNat ∧ b.toNat ≤ 57 := by
  intro b hb
  rw [txt_list] at hb
  rcases List.mem_append.1 hb with hb | hb
  · rcases List.mem_append.1 hb with hb | hb
    · exact pd_digits _ _ b hb
    · exact pd_digits _ _ b hb
  · exact pd_digits _ _ b hb
theorem no45 (y m d : Nat) : (45 : UInt8) ∉ (txt y m d).data.toList := fun h => by have := txt_dig y m d 45 h; simp at this
theorem no92 (y m d : Nat) : (92 : UInt8) ∉ (txt y m d).data.toList := fun h => by have := txt_dig y m d 92 h; simp at this
theorem txt_len (y m d : Nat) : (txt y m d).data.toList.length = 8 := by rw [Array.length_toList]; exact txt_size y m d
theorem sp_txt (y m d : Nat) : Sp.spB (txt y m d) = [txt y m d] := by
  unfold Sp.spB
  rw [Sp.spL_none _ (fun k e => no92 y m d (List.mem_of_getElem? e))]
  rfl
end Go.Proofs.YtehgeninocbpeaaGreatDoor.Tm
