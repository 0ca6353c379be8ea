import Derived.Test.YtfoodjhffehgpaaGreatDoorBp
import Derived.Test.YtfoodjhffehgpaaGreatDoorBa
import Derived.Test.YtfoodjhffehgpaaGreatDoorZa
section
/-
  DERIVED. What is laid down, asked again: numbers, tags, heads, values. Plain functions.
-/
namespace Go.Proofs.YtfoodjhffehgpaaGreatDoor
open Go Go.Proofs Go.RowKit
open Wk (Nd goN)

/-- These bytes lie there. -/
def At (ys : List UInt8) (k : Nat) (l : List UInt8) : Prop := ∃ r, ys.drop k = l ++ r
theorem At.left {ys l m : List UInt8} {k : Nat} (h : At ys k (l ++ m)) : At ys k l := by
  obtain ⟨r, h⟩ := h
  exact ⟨m ++ r, by rw [h, List.append_assoc]⟩
theorem At.right {ys l m : List UInt8} {k : Nat} (h : At ys k (l ++ m)) : At ys (k + l.length) m := by
  obtain ⟨r, h⟩ := h
  refine ⟨r, ?_⟩
  rw [← List.drop_drop, h, List.append_assoc, List.drop_left]
theorem At.right' {ys l m : List UInt8} {k n : Nat} (h : At ys k (l ++ m)) (hn : l.length = n) : At ys (k + n) m := hn ▸ h.right
theorem At.head {ys l : List UInt8} {b : UInt8} {k : Nat} (h : At ys k (b :: l)) : gB ys k = b.toNat ∧ At ys (k + 1) l := by
  have h2 : At ys k ([b] ++ l) := h
  refine ⟨?_, h2.right⟩
  obtain ⟨r, h⟩ := h
  have e : ys[k]? = some b := by
    have := congrArg (fun l => l[0]?) h
    simpa [List.getElem?_drop] using this
  unfold gB
  rw [List.getD_eq_getElem?_getD, e]
  rfl
theorem At.cut {ys l : List UInt8} {k : Nat} (h : At ys k l) : cutB ys k l.length = ⟨l.toArray⟩ := by
  obtain ⟨r, h⟩ := h
  unfold cutB
  rw [h, List.take_left]
theorem u8n (m : Nat) : (UInt8.ofNat m).toNat = m % 256 := by rw [UInt8.toNat_ofNat']
theorem at_u16 {ys : List UInt8} {k n : Nat} (h : At ys k (le 2 n)) : u16S ys k = n % 65536 := by
  obtain ⟨h1, h2⟩ := At.head (show At ys k (UInt8.ofNat n :: [UInt8.ofNat (n / 256)]) from h)
  obtain ⟨h3, -⟩ := h2.head
  unfold u16S
  rw [h1, h3, u8n, u8n]
  omega
theorem at_num {ys : List UInt8} {k n : Nat} (h : At ys k (le 4 n)) (hn : n < 4294967296) : numS ys k = n := by
  have h2 : At ys k (le 2 n ++ le 2 (n / 65536)) := by
    have : le 4 n = le 2 n ++ le 2 (n / 65536) := by
      show [UInt8.ofNat n, UInt8.ofNat (n / 256), UInt8.ofNat (n / 256 / 256), UInt8.ofNat (n / 256 / 256 / 256)] = [UInt8.ofNat n, UInt8.ofNat (n / 256), UInt8.ofNat (n / 65536), UInt8.ofNat (n / 65536 / 256)]
      rw [Nat.div_div_eq_div_mul n 256 256]
    rw [← this]
    exact h
  unfold numS
  rw [at_u16 h2.left, at_u16 (h2.right' (le_len 2 n))]
  omega
theorem at_tag {ys : List UInt8} {k t : Nat} (h : At ys k (tagL t)) (ht : t < 4294967296) : tagS ys k = t := by
  unfold tagL at h
  unfold tagS
  rw [at_u16 h.left, at_u16 (h.right' (le_len 2 _))]
  omega
theorem at_pl {ys : List UInt8} {k t n : Nat} (h : At ys k (plL t n)) (ht : t < 4294967296) (hn : n < 4294967296) : tagS ys k = t ∧ numS ys (k + 4) = n := by
  unfold plL at h
  exact ⟨at_tag h.left ht, at_num (h.right' (tagL_len t)) hn⟩

theorem fnd_nm : ∀ j : _root_.Fin 29, j.val = 0 ∨ Rp.fnd (Rp.nm j.val) 28 1 = j.val := by decide +kernel
theorem vn_of {v : Int} (h : 1 ≤ v ∧ v ≤ 28) : Rp.vn v = v.toNat := by unfold Rp.vn; rw [if_pos h]
theorem at_vr {ys : List UInt8} {k : Nat} {v : Int} (h : At ys (k + 4) (ltr v)) (hv : 1 ≤ v ∧ v ≤ 28) : vrE ys k = v.toNat := by
  have h1 := h.cut
  rw [ltr_len hv] at h1
  unfold vrE
  rw [h1]
  have h2 := (fnd_nm ⟨Rp.vn v, Rp.vn_lt v⟩).resolve_left (by show ¬ Rp.vn v = 0; rw [vn_of hv]; omega)
  show Rp.fnd (Rp.nm (Rp.vn v)) 28 1 = _
  exact h2.trans (vn_of hv)

/-- A node as it reads without its VR. -/
def imN (a : Nd) : Nd := if a.v = 29 ∨ a.v = 18 ∨ (fnd a).isSome = true then a else ⟨a.t, dflt a.t.toNat, a.n, trS (dflt a.t.toNat) (Rp.padB (Rp.pd (Rp.vn a.v)) a.s)⟩
/-- A node as it is read again, by the syntax. -/
def bkN (x : Bool) (a : Nd) : Nd := if x = true then a else imN a
theorem bkN_t (x : Bool) (a : Nd) : (bkN x a).t = a.t := by unfold bkN imN; split <;> (try split) <;> rfl
theorem bkN_n (x : Bool) (a : Nd) : (bkN x a).n = a.n := by unfold bkN imN; split <;> (try split) <;> rfl
theorem bkN_sq (x : Bool) {a : Nd} (h : a.v = 29 ∨ a.v = 18) : bkN x a = a := by
  unfold bkN imN
  split
  · rfl
  · rw [if_pos (by rcases h with h | h; exact .inl h; exact .inr (.inl h))]

/-- What a tag of an element is. -/
theorem may_tag {t : Nat} (h : mayS t = true) : isBar t = false ∧ t % 65536 ≠ 0 ∧ t ≠ 4294893568 ∧ t / 65536 ≠ 65534 := by
  unfold mayS at h
  simp only [Bool.and_eq_true, Bool.not_eq_true', Bool.or_eq_false_iff, decide_eq_false_iff_not] at h
  obtain ⟨⟨⟨⟨h1, h2⟩, h3⟩, h4⟩, h5⟩ := h
  refine ⟨?_, h5, by omega, h3⟩
  unfold isBar
  simp [h1, h2, h3, h4]
theorem dflt_kn {t : Nat} (h : mayS t = true) (hk : (kn t).isSome = true) : dflt t = Tb.eV (kn t) := by
  obtain ⟨-, h2, h3, h4⟩ := may_tag h
  unfold dflt
  rw [if_neg h3, if_neg h4, if_neg h2]
  unfold kn at hk ⊢
  rw [if_pos hk]
theorem dflt_un {t : Nat} (h : mayS t = true) (hk : ¬ (kn t).isSome = true) : dflt t = 11 ∨ dflt t = 25 := by
  obtain ⟨-, h2, h3, h4⟩ := may_tag h
  unfold dflt
  rw [if_neg h3, if_neg h4, if_neg h2]
  unfold kn at hk
  rw [if_neg hk]
  split
  · exact .inl rfl
  · exact .inr rfl
theorem elem_may {a : Nd} (h : elemOk a = true) : mayS a.t.toNat = true ∧ ((kn a.t.toNat).isSome = true → a.v = Tb.eV (kn a.t.toNat)) := by
  unfold elemOk at h
  simp only [Bool.and_eq_true] at h
  refine ⟨h.1, fun hk => ?_⟩
  have h2 := h.2.1
  unfold vrO at h2
  have hk : (fnd a).isSome = true := hk
  rw [hk] at h2
  show a.v = Tb.eV (fnd a)
  simpa using h2

/-- A head, read again. -/
theorem at_hd {x : Bool} {ys : List UInt8} {k fin n : Nat} {a : Nd} (ha : elemOk a = true) (ht : a.t < 4294967296) (h : At ys k ((encOf x).hd a n)) (hn : n < 4294967296) (hu : n = und ↔ (encOf x).und a = true) (hs : x = true → Rp.lo (Rp.vn a.v) = false → n < 65536) (hf : k + (encOf x).hs a ≤ fin) :
    ∃ g : Hd, (srcS ys).tag k = a.t.toNat ∧ (srcS ys).hd x k fin = .inr g ∧ g.sz = (encOf x).hs a ∧ g.len = n ∧ g.v = (bkN x a).v ∧ (a.v = 18 → g.ex = x) := by
  obtain ⟨h1, h2⟩ := elem_may ha
  obtain ⟨hv1, hv2, -⟩ := elem_vr ha
  obtain ⟨m1, m2, m3, m4⟩ := may_tag h1
  have ht' : a.t.toNat < 4294967296 := by omega
  cases x with
  | false =>
    obtain ⟨e1, e2⟩ := at_pl (show At ys k (plL a.t.toNat n) from h) ht' hn
    refine ⟨hdI ys k, e1, rfl, rfl, e2, ?_, fun _ => rfl⟩
    show (if numS ys (k + 4) = und ∧ (kn (tagS ys k)).isSome = false ∧ tagS ys k % 65536 ≠ 0 then 18 else dflt (tagS ys k)) = (imN a).v
    rw [e1, e2]
    have hu : n = und ↔ (decide (a.v = 18) && !(fnd a).isSome) = true := hu
    have hkn : kn a.t.toNat = fnd a := rfl
    unfold imN
    by_cases hk : (fnd a).isSome = true
    · rw [if_neg (fun e => by rw [hkn, hk] at e; cases e.2.1), if_pos (.inr (.inr hk)), dflt_kn h1 (hkn ▸ hk), ← h2 (hkn ▸ hk)]
    · by_cases h18 : a.v = 18
      · rw [if_pos ⟨hu.2 (by simp [h18, hk]), by rw [hkn]; simpa using hk, m2⟩, if_pos (.inr (.inl h18)), h18]
      · rw [if_neg (fun e => h18 (by have := hu.1 e.1; simp at this; exact this.1)), if_neg (by rintro (e | e | e); omega; exact h18 e; exact hk e)]
  | true =>
    have h : At ys k (if a.v = 29 then plL a.t.toNat n else exL a.t.toNat a.v n) := h
    rw [if_neg (by omega)] at h
    unfold exL at h
    have e1 := at_tag h.left.left ht'
    have e2 := at_vr (h.left.right' (tagL_len _)) ⟨hv1, hv2⟩
    have e3 := h.right' (n := 6) (by rw [List.length_append, tagL_len, ltr_len ⟨hv1, hv2⟩])
    have hf : k + (if Rp.lo (Rp.vn a.v) = true then 12 else 8) ≤ fin := hf
    have hnu : n ≠ und := fun e => by have := hu.1 e; cases this
    have hlv : Rp.lo (Rp.vn a.v) = Rp.lo (vrE ys k) := by rw [e2, vn_of ⟨hv1, hv2⟩]
    have hcast : ((vrE ys k : Nat) : Int) = a.v := by rw [e2]; omega
    rw [hlv] at e3 hf hs
    have e4 : (hE0 ys k).len = n := by
      show (if Rp.lo (vrE ys k) = true then numS ys (k + 8) else u16S ys (k + 6)) = n
      by_cases hl : Rp.lo (vrE ys k) = true
      · rw [if_pos hl] at e3 ⊢
        exact at_num (e3.right' rfl) hn
      · rw [if_neg hl] at e3 ⊢
        rw [at_u16 e3]
        have := hs rfl (by simpa using hl)
        omega
    have hmay : mayT (tagS ys k) (vrE ys k) = true := by
      unfold mayT
      rw [e1, if_neg m2, hcast]
      by_cases hk : (kn a.t.toNat).isSome = true
      · rw [h2 hk]; simp
      · simp [hk]
    have hgo : (srcS ys).hd true k fin = .inr (if vrE ys k = 25 then unk (tagS ys k) (hE0 ys k) else hE0 ys k) := by
      show hdE ys k fin = _
      unfold hdE
      rw [if_neg (by omega), if_neg (fun e => by rw [if_pos e.1] at hf; omega), if_neg (by rw [hmay]; simp)]
    refine ⟨_, e1, hgo, ?_, ?_, ?_, ?_⟩
    · show _ = if Rp.lo (Rp.vn a.v) = true then 12 else 8
      rw [hlv]
      split <;> rfl
    · split <;> exact e4
    · show _ = a.v
      by_cases h25 : vrE ys k = 25
      · rw [if_pos h25]
        show (if (kn (tagS ys k)).isSome = true then Tb.eV (kn (tagS ys k)) else if (hE0 ys k).len = und then 18 else (vrE ys k : Int)) = a.v
        rw [e1, e4, if_neg hnu]
        split
        · rename_i hk; exact (h2 hk).symm
        · exact hcast
      · rw [if_neg h25]
        exact hcast
    · intro h18
      rw [if_neg (by omega)]
      rfl

theorem trimN_app (L M : List UInt8) : ∀ n, n ≤ L.length → Rp.trimN (L ++ M) n = Rp.trimN L n
  | 0, _ => rfl
  | n + 1, h => by
    rw [Rp.trimN, Rp.trimN, trimN_app L M n (by omega)]
    have e : (L ++ M).getD n 1 = L.getD n 1 := by
      rw [List.getD_eq_getElem?_getD, List.getD_eq_getElem?_getD, List.getElem?_append_left (by omega)]
    rw [e]
theorem trim_pad {p : Int} {s : ByteArray} (hs : ((Rp.trimB s).toList == s.toList) = true) : Rp.trimB (Rp.padB p s) = s := by
  have hs : Rp.trimB s = s := by
    have h := (beq_iff_eq).1 hs
    rw [ByteArray.toList_eq, ByteArray.toList_eq] at h
    apply ByteArray.ext
    exact Array.ext' h
  unfold Rp.padB
  split
  · exact hs
  · obtain ⟨c, hc, e⟩ : ∃ c : UInt8, (c = 32 ∨ c = 0) ∧ (if p = 32 then (⟨#[32]⟩ : ByteArray) else ⟨#[0]⟩) = ⟨#[c]⟩ := by
      split
      · exact ⟨32, .inl rfl, rfl⟩
      · exact ⟨0, .inr rfl, rfl⟩
    rw [e]
    have hd : (s ++ (⟨#[c]⟩ : ByteArray)).data.toList = s.data.toList ++ [c] := by
      rw [ByteArray.data_append]; simp
    have hz : (s ++ (⟨#[c]⟩ : ByteArray)).size = s.size + 1 := by rw [ByteArray.size_append]; rfl
    conv => rhs; rw [← hs]
    apply ByteArray.ext
    apply Array.ext'
    unfold Rp.trimB
    rw [Rp.extract_list, Rp.extract_list, hd, hz, Rp.trimN]
    have hl : s.data.toList.length = s.size := by rw [Array.length_toList]; rfl
    rw [if_pos (by rw [List.getD_eq_getElem?_getD, List.getElem?_append_right (by omega), hl]; simpa using hc), trimN_app _ _ _ (by omega)]
    rw [List.take_append_of_le_length]
    have := Rp.trimN_le s.data.toList s.size
    omega
/-- A value, read again. -/
theorem at_val {x : Bool} {ys : List UInt8} {k : Nat} {a : Nd} (ha : elemOk a = true) (h18 : a.v ≠ 18) (h : At ys k ((encOf x).pv a)) : (srcS ys).val (bkN x a).v k ((encOf x).pv a).length = (bkN x a).s := by
  rw [encOf_pv] at h ⊢
  show trS (bkN x a).v (cutB ys k _) = _
  rw [h.cut]
  have e : (⟨(pvL a.v a.s).toArray⟩ : ByteArray) = Rp.padB (Rp.pd (Rp.vn a.v)) a.s := by
    unfold pvL
    apply ByteArray.ext
    exact Array.ext' rfl
  rw [e]
  have hb : trS a.v (Rp.padB (Rp.pd (Rp.vn a.v)) a.s) = a.s := by
    unfold elemOk bodyO at ha
    simp only [Bool.and_eq_true] at ha
    have h2 := ha.2.2
    rw [if_neg h18] at h2
    simp only [Bool.and_eq_true] at h2
    have h3 := h2.2.2.2
    unfold unp at h3
    unfold trS
    by_cases ht : Rp.tx (Rp.vn a.v) = true
    · rw [if_pos ht] at h3 ⊢
      exact trim_pad h3
    · rw [if_neg ht] at h3 ⊢
      unfold Rp.padB
      rw [if_pos (of_decide_eq_true h3)]
  unfold bkN imN
  split
  · exact hb
  · split
    · exact hb
    · rfl
end Go.Proofs.YtfoodjhffehgpaaGreatDoor
end

section
/-
  DERIVED. What is laid down is read again: node by node, level by level. Plain functions.
-/
namespace Go.Proofs.YtfoodjhffehgpaaGreatDoor
open Go Go.Proofs Go.RowKit
open Wk (Nd goN)

theorem GoesFor.trans {S : Src} {m d : Nat} {mk mk' mk2 : Option Nat → Sp} {k k' k2 c c2 : Nat} {X X2 : List Nd} (g : GoesFor S m d mk mk' k k' c X) (h : GoesFor S (m + X.length) d mk' mk2 k' k2 c2 X2) : GoesFor S m d mk mk2 k k2 (c + c2) (X ++ X2) := fun M nd rest R h1 h2 h3 h4 => by
  refine g M nd rest R h1 h2 h3 (h _ nd rest R (by rw [List.length_append, bump_len, h1]) (fun i e => by have := h2 i e; omega) h3 ?_)
  rw [bump_app (fun i e => by rw [bump_len, h1]; exact h2 i e), bump_add, List.append_assoc]
  exact h4
theorem step_el {S : Src} {k fin last : Nat} {M : List Nd} {x : Bool} {nd : Option Nat} {rest : List Sp} {h : Hd} (hf : k + 8 ≤ fin) (hb : isBar (S.tag k) = false) (hl : last < S.tag k) (hh : S.hd x k fin = .inr h) : step S k M (rsp fin false x last nd) rest = stepB S k M (rsp fin false x last nd) rest h := by
  rw [zs_in (.inr (show k < fin by omega)) (show ¬ fin - k < 8 by omega) (fun e => by have e1 : false = true := e.1; cases e1)]
  show stepE S k M (rsp fin false x last nd) rest = _
  unfold stepE
  rw [if_neg (fun e => by
    rcases e with e | e
    · rw [hb] at e; cases e
    · have e : S.tag k ≤ last := e
      omega)]
  show (match S.hd x k fin with
    | .inl c => Res.bad k c
    | .inr h => stepB S k M (rsp fin false x last nd) rest h) = _
  rw [hh]
theorem hs_even (x : Bool) (a : Nd) : (encOf x).hs a % 2 = 0 ∧ 8 ≤ (encOf x).hs a := by
  cases x
  · exact ⟨show 8 % 2 = 0 from rfl, Nat.le_refl 8⟩
  · show (if Rp.lo (Rp.vn a.v) = true then 12 else 8) % 2 = 0 ∧ 8 ≤ (if Rp.lo (Rp.vn a.v) = true then 12 else 8)
    split <;> exact ⟨rfl, by omega⟩
theorem enc_even (x : Bool) : ∀ M : List Nd, (encOf x).szP M % 2 = 0
  | [] => rfl
  | a :: r => by
    have h1 := enc_even x r
    have h2 := (hs_even x a).1
    have h3 : ((encOf x).pv a).length % 2 = 0 := by rw [encOf_pv, pvL_len]; omega
    rw [Enc.szP, Enc.sz1]
    split <;> omega
theorem szD_even (x : Bool) {f : Nat} {b : Bool} {M : List Nd} (h : wf elemOk itemOk f b M) : (encOf x).szD f b M % 2 = 0 := by
  rw [(Enc.same (fitX x) f b M h).1]
  exact enc_even x M
theorem lay_len (x : Bool) {f : Nat} {b : Bool} {M : List Nd} (h : wf elemOk itemOk f b M) (hf : M.length ≤ f) : ((encOf x).layD f b M).length = (encOf x).szD f b M := by
  obtain ⟨h1, h2⟩ := Enc.same (fitX x) f b M h
  rw [h1, h2]
  exact wr_len x f M hf (wf_good f b M h)
theorem szD_nil (X : Enc) (f : Nat) (b : Bool) : X.szD f b [] = 0 := by cases f <;> cases b <;> rfl
theorem bk_v (x : Bool) {a : Nd} (ha : elemOk a = true) (h18 : a.v ≠ 18) : (bkN x a).v ≠ 18 := by
  unfold bkN imN
  split
  · exact h18
  · split
    · exact h18
    · rename_i hk
      show dflt a.t.toNat ≠ 18
      have := dflt_un (elem_may ha).1 (fun e => hk (.inr (.inr e)))
      omega
theorem size_nil {s : ByteArray} (h : s.size = 0) : s = ByteArray.empty := by
  apply ByteArray.ext
  exact Array.eq_empty_of_size_eq_zero h

/-- An element that is no sequence. -/
theorem back_plain {x : Bool} {ys : List UInt8} {a : Nd} {k fin m d last : Nat} (ha : elemOk a = true) (h18 : a.v ≠ 18) (ht : a.t < 4294967296) (h0 : 0 ≤ a.t) (hl : last < a.t.toNat) (hA : At ys k ((encOf x).hd a ((encOf x).pv a).length)) (hP : At ys (k + (encOf x).hs a) ((encOf x).pv a)) (hf : k + (encOf x).hs a + ((encOf x).pv a).length ≤ fin) (hm : m < 4096) :
    GoesFor (srcS ys) m d (rsp fin false x last) (rsp fin false x a.t.toNat) k (k + (encOf x).hs a + ((encOf x).pv a).length) 1 [bkN x a] := by
  obtain ⟨hn0, hu⟩ := (fitX x).el a ha h18
  obtain ⟨-, -, hsz⟩ := elem_vr ha
  have hpl : ((encOf x).pv a).length = a.s.size + a.s.size % 2 := by rw [encOf_pv, pvL_len]
  have h8 := (hs_even x a).2
  obtain ⟨g, g1, g2, g3, g4, g5, g6⟩ := at_hd (fin := fin) ha ht hA (by omega) ⟨fun e => by unfold und at e; omega, fun e => by rw [hu] at e; cases e⟩ (fun _ _ => by omega) (by omega)
  obtain ⟨m1, m2, m3, m4⟩ := may_tag (elem_may ha).1
  have hel : ElGo (srcS ys) (m + ([] : List Nd).length) d fin x k g (k + g.sz + g.len) [⟨(srcS ys).tag k, g.v, 0, (srcS ys).val g.v (k + g.sz) g.len⟩] := by
    refine ElGo.plain ?_ ?_ ?_ (by rw [g1]; exact m2) (by show m + 0 ≠ 4096; omega) (by rw [g5]; exact bk_v x ha h18)
    · unfold badLen
      rw [g4, decide_eq_false (show ¬ ((encOf x).pv a).length = und by unfold und; omega), decide_eq_false (show ¬ ((encOf x).pv a).length % 2 = 1 by omega)]
      simp
    · rw [g4]; omega
    · rw [g3, g4]; omega
  have hg := (GoesFor.start (srcS ys) m d (rsp fin false x last) k).elem (fun M nd rest => step_el (by omega) (by rw [g1]; exact m1) (by rw [g1]; exact hl) g2) hel
  rw [g1, if_neg m2, g3, g4, g5, at_val ha h18 hP] at hg
  have e : ((⟨(a.t.toNat : Int), (bkN x a).v, 0, (bkN x a).s⟩ : Nd)) = bkN x a := by
    have e1 := bkN_t x a
    have e2 := bkN_n x a
    rw [hn0] at e2
    rw [show (a.t.toNat : Int) = (bkN x a).t by omega, ← e2]
  rw [e] at hg
  exact hg
/-- A sequence. -/
theorem back_seq {x : Bool} {ys : List UInt8} {a : Nd} {k fin m d last z : Nat} {X : List Nd} (ha : elemOk a = true) (h18 : a.v = 18) (ht : a.t < 4294967296) (h0 : 0 ≤ a.t) (hl : last < a.t.toNat) (hze : z % 2 = 0)
    (hA : At ys k ((encOf x).hd a (if (encOf x).und a = true then 4294967295 else z))) (hM : (encOf x).und a = true → At ys (k + (encOf x).hs a + z) ((encOf x).em)) (hf : k + (encOf x).hs a + z + (if (encOf x).und a = true then 8 else 0) ≤ fin) (hfin : fin ≤ 1048576) (hm : m < 4096)
    (hin : ∀ (fin2 : Nat) (opn2 : Bool), k + (encOf x).hs a + z ≤ fin2 → fin2 ≤ 1048576 → GoesFor (srcS ys) (m + 1) (2 * d + 1) (isp fin2 opn2 x) (isp fin2 opn2 x) (k + (encOf x).hs a) (k + (encOf x).hs a + z) a.n.toNat X) :
    GoesFor (srcS ys) m (2 * d) (rsp fin false x last) (rsp fin false x a.t.toNat) k (k + (encOf x).hs a + z + (if (encOf x).und a = true then 8 else 0)) 1 (bkN x a :: X) := by
  have h8 := (hs_even x a).2
  obtain ⟨m1, m2, m3, m4⟩ := may_tag (elem_may ha).1
  have hzf : k + (encOf x).hs a + z ≤ fin := by omega
  obtain ⟨g, g1, g2, g3, g4, g5, g6⟩ := at_hd (fin := fin) ha ht hA (by split <;> omega) ⟨fun e => by
    rcases hq : (encOf x).und a with _ | _
    · rw [hq, if_neg (by simp)] at e; unfold und at e; omega
    · rfl, fun e => by rw [if_pos e]; rfl⟩ (fun hx hlo => by
      rw [h18] at hlo
      have hq : Rp.lo (Rp.vn 18) = true := by decide +kernel
      rw [hq] at hlo
      cases hlo) (by omega)
  have gv : g.v = 18 := by rw [g5, bkN_sq x (.inr h18)]; exact h18
  have gx := g6 h18
  have hbl : ¬ badLen g = true := by
    unfold badLen
    rw [gv, g4]
    split
    · rw [decide_eq_true (show (4294967295 : Nat) = und from rfl)]; simp
    · rw [decide_eq_false (show ¬ z % 2 = 1 by omega)]; simp
  have hsh : ¬ (g.len ≠ und ∧ fin - k - g.sz < g.len) := by
    rw [g3, g4]
    split
    · exact fun e => e.1 rfl
    · intro e; omega
  have hout : OutFor (srcS ys) (m + ([] : List Nd).length + 1) (2 * d + 1) (isp (if g.len = und then fin else k + g.sz + g.len) (decide (g.len = und)) g.ex) (k + g.sz) (k + (encOf x).hs a + z + (if (encOf x).und a = true then 8 else 0)) a.n.toNat X := by
    rw [g3, g4, gx]
    by_cases hu : (encOf x).und a = true
    · rw [if_pos hu] at hf
      rw [if_pos hu, if_pos hu, if_pos (show (4294967295 : Nat) = und from rfl), decide_eq_true (show (4294967295 : Nat) = und from rfl)]
      refine (hin fin true hzf hfin).out fun M nd rest => ?_
      have hMk := hM hu
      rw [encOf_em] at hMk
      obtain ⟨e1, e2⟩ := at_pl hMk (by decide) (by decide)
      rw [zs_mark rfl (show ¬ fin - _ < 8 by omega) (show tagS ys _ = mark true from e1), if_neg (fun e => e (show numS ys _ = 0 from e2))]
    · rw [if_neg hu, if_neg hu, if_neg (show ¬ z = und by unfold und; omega), decide_eq_false (show ¬ z = und by unfold und; omega)]
      exact (hin _ false (Nat.le_refl _) (by omega)).out fun M nd rest => zs_end rfl rfl
  have hel : ElGo (srcS ys) (m + ([] : List Nd).length) (2 * d) fin x k g (k + (encOf x).hs a + z + (if (encOf x).und a = true then 8 else 0)) (sqN ((srcS ys).tag k) a.n.toNat :: X) :=
    ElGo.seq (by rw [g1]; exact m2) (fun M nd rest opn last hM => stepB_seq hbl gv hsh (by rw [g1]; exact m2) (by rw [hM]; show m + 0 ≠ 4096; omega)) hout
  have hg := (GoesFor.start (srcS ys) m (2 * d) (rsp fin false x last) k).elem (fun M nd rest => step_el (by omega) (by rw [g1]; exact m1) (by rw [g1]; exact hl) g2) hel
  rw [g1, if_neg m2] at hg
  have e : sqN a.t.toNat a.n.toNat = bkN x a := by
    rw [bkN_sq x (.inr h18)]
    have e1 := size_nil (elem_sq ha h18)
    have e2 := (elem_n a ha).1
    unfold sqN
    rw [show (a.t.toNat : Int) = a.t by omega, show (a.n.toNat : Int) = a.n by omega, ← h18, ← e1]
  rw [e] at hg
  exact hg
/-- An item. -/
theorem back_item {x opn : Bool} {ys : List UInt8} {a : Nd} {k fin m d z : Nat} {X : List Nd} (ha : itemOk a = true) (hd : d + 1 ≤ 4) (hze : z % 2 = 0) (hA : At ys k ((encOf x).ih z)) (hf : k + 8 + z ≤ fin) (hfin : fin ≤ 1048576) (hm : m < 4096)
    (hin : ∃ t2, GoesFor (srcS ys) (m + 1) (2 * (d + 1)) (rsp (k + 8 + z) false x 0) (rsp (k + 8 + z) false x t2) (k + 8) (k + 8 + z) a.n.toNat X) :
    GoesFor (srcS ys) m (2 * d + 1) (isp fin opn x) (isp fin opn x) k (k + 8 + z) 1 (bkN x a :: X) := by
  obtain ⟨t2, hin⟩ := hin
  obtain ⟨i1, i2, i3⟩ := item_all ha
  have hA : At ys k (plL 4294893568 z) := by cases x <;> exact hA
  obtain ⟨e1, e2⟩ := at_pl hA (by decide) (by omega)
  have e1 : (srcS ys).tag k = 4294893568 := e1
  have e2 : (srcS ys).num (k + 4) = z := e2
  have hnu : z ≠ und := by unfold und; omega
  have hout : OutFor (srcS ys) (m + ([] : List Nd).length + 1) (2 * (d + 1)) (rsp (k + 8 + z) false x 0) (k + 8) (k + 8 + z) a.n.toNat X := hin.out fun M nd rest => zs_end rfl rfl
  have hg := (GoesFor.start (srcS ys) m (2 * d + 1) (isp fin opn x) k).item (fun M nd rest hM hr => by
    rw [zs_in (.inr (show k < fin by omega)) (show ¬ fin - k < 8 by omega) (fun e => by rw [e1] at e; have e := e.2; revert e; show ¬ 4294893568 = 4294893789; decide)]
    show stepI (srcS ys) k M (isp fin opn x nd) rest = _
    rw [stepI_go e1 (by rw [e2]; exact fun e => by omega) (by rw [hr]; omega) (by rw [e2]; exact fun e => by have := e.2; change fin - k - 8 < z at this; omega) (by rw [hM]; show m + 0 ≠ 4096; omega)]
    rw [e2, if_neg hnu, decide_eq_false hnu]
    rfl) hout
  have e : itN a.n.toNat = bkN x a := by
    rw [bkN_sq x (.inl i2)]
    have e1 := size_nil i3
    have e2 := item_n a ha
    unfold itN
    rw [show (a.n.toNat : Int) = a.n by omega, ← i2, ← i1, ← e1]
  rw [e] at hg
  exact hg
theorem map_cut (g : Nd → Nd) (r : List Nd) (j : Nat) : (r.take j).map g ++ (r.drop j).map g = r.map g := by rw [← List.map_append, List.take_append_drop]

/-- All of it. -/
theorem back (x : Bool) (ys : List UInt8) : ∀ (f : Nat) (b : Bool) (d : Nat) (t : Int) (c : Nat) (M : List Nd), M.length ≤ f → wt elemOk itemOk f b d t c M → (∀ a ∈ M, 0 ≤ a.t ∧ a.t < 4294967296) → 0 ≤ t → ∀ (k fin m : Nat) (opn : Bool), (b = false → opn = false) → At ys k ((encOf x).layD f b M) → k + (encOf x).szD f b M ≤ fin → fin ≤ 1048576 → m + M.length ≤ 4096 →
    (b = false → ∃ t2, GoesFor (srcS ys) m (2 * d) (rsp fin opn x t.toNat) (rsp fin opn x t2) k (k + (encOf x).szD f b M) c (M.map (bkN x))) ∧ (b = true → GoesFor (srcS ys) m (2 * d + 1) (isp fin opn x) (isp fin opn x) k (k + (encOf x).szD f b M) c (M.map (bkN x))) := by
  intro f
  induction f with
  | zero =>
    intro b d t c M hf hw _ _ k fin m opn hob hA hk hfin hm
    obtain ⟨rfl, rfl⟩ := hw
    rw [szD_nil]
    exact ⟨fun _ => ⟨_, GoesFor.start _ _ _ _ _⟩, fun _ => GoesFor.start _ _ _ _ _⟩
  | succ f ih =>
    intro b d t c M hf hw hT ht k fin m opn hob hA hk hfin hm
    cases M with
    | nil =>
      obtain rfl : c = 0 := hw
      rw [szD_nil]
      exact ⟨fun _ => ⟨_, GoesFor.start _ _ _ _ _⟩, fun _ => GoesFor.start _ _ _ _ _⟩
    | cons a r =>
      obtain ⟨hc, h1, h2, h3⟩ := hw
      have hTa := hT a List.mem_cons_self
      have hTi : ∀ y ∈ r.take (goN r a.n.toNat), 0 ≤ y.t ∧ y.t < 4294967296 := fun y hy => hT y (List.mem_cons_of_mem _ (List.mem_of_mem_take hy))
      have hTr : ∀ y ∈ r.drop (goN r a.n.toNat), 0 ≤ y.t ∧ y.t < 4294967296 := fun y hy => hT y (List.mem_cons_of_mem _ (List.mem_of_mem_drop hy))
      have hrf : r.length ≤ f := by simp at hf; omega
      have hlen : (r.take (goN r a.n.toNat)).length + (r.drop (goN r a.n.toNat)).length = r.length := by rw [← List.length_append, List.take_append_drop]
      have hm' : m + (r.length + 1) ≤ 4096 := hm
      have hw2 := wt_wf f _ _ _ _ _ h2
      have hw3 := wt_wf f _ _ _ _ _ h3
      cases b with
      | false =>
        obtain rfl := hob rfl
        refine ⟨fun _ => ?_, fun e => (by cases e)⟩
        have h1 : elemOk a = true ∧ t < a.t := h1
        have h2 : wt elemOk itemOk f true d 0 a.n.toNat (r.take (goN r a.n.toNat)) := h2
        have hw2 : wf elemOk itemOk f true (r.take (goN r a.n.toNat)) := hw2
        by_cases h18 : a.v = 18
        · rw [Enc.layD, if_neg (by simp [h18])] at hA
          rw [Enc.szD, if_neg (by simp [h18])] at hk ⊢
          have hl2 := lay_len x hw2 (by omega)
          have hh : ∀ n, ((encOf x).hd a n).length = (encOf x).hs a := fun n => hd_len x (.inr (by omega)) n
          have hAh := hA.left.left.left
          have hAi := hA.left.left.right' (hh _)
          have hAm := hA.left.right' (n := (encOf x).hs a + (encOf x).szD f true (r.take (goN r a.n.toNat))) (by rw [List.length_append, hh, hl2])
          have hAr := hA.right' (n := (encOf x).hs a + (encOf x).szD f true (r.take (goN r a.n.toNat)) + (if (encOf x).und a = true then 8 else 0)) (by
            rw [List.length_append, List.length_append, hh, hl2]
            congr 1
            split
            · rw [encOf_em, plL_len]
            · rfl)
          have g1 := back_seq (x := x) (ys := ys) (a := a) (k := k) (fin := fin) (m := m) (d := d) (last := t.toNat) (z := (encOf x).szD f true (r.take (goN r a.n.toNat))) (X := (r.take (goN r a.n.toNat)).map (bkN x)) h1.1 h18 hTa.2 hTa.1 (by omega) (szD_even x hw2) hAh (fun hu => by
            rw [if_pos hu] at hAm
            rw [Nat.add_assoc]
            exact hAm) (by omega) hfin (by omega) (fun fin2 opn2 q1 q2 => (ih true d 0 _ _ (by omega) h2 hTi (Int.le_refl 0) _ fin2 (m + 1) opn2 (fun e => (by cases e)) hAi q1 q2 (by omega)).2 rfl)
          obtain ⟨t2, g2⟩ := (ih false d a.t (c - 1) _ (by omega) h3 hTr hTa.1 (k + (encOf x).hs a + (encOf x).szD f true (r.take (goN r a.n.toNat)) + (if (encOf x).und a = true then 8 else 0)) fin (m + (bkN x a :: (r.take (goN r a.n.toNat)).map (bkN x)).length) false (fun _ => rfl) (by
            rw [Nat.add_assoc k, Nat.add_assoc k]
            exact hAr) (by omega) hfin (by simp only [List.length_cons, List.length_map]; omega)).1 rfl
          have g3 := g1.trans g2
          refine ⟨t2, ?_⟩
          rw [List.cons_append, map_cut, show 1 + (c - 1) = c by omega] at g3
          rw [show k + ((encOf x).hs a + (if (encOf x).und a = true then 8 else 0) + (encOf x).szD f true (r.take (goN r a.n.toNat)) + (encOf x).szD f false (r.drop (goN r a.n.toNat))) = k + (encOf x).hs a + (encOf x).szD f true (r.take (goN r a.n.toNat)) + (if (encOf x).und a = true then 8 else 0) + (encOf x).szD f false (r.drop (goN r a.n.toNat)) by omega]
          exact g3
        · obtain ⟨hn0, hu⟩ := (fitX x).el a h1.1 h18
          have hg0 : goN r a.n.toNat = 0 := by rw [hn0]; exact Wk.goN_zero r
          obtain ⟨hv1, hv2, -⟩ := elem_vr h1.1
          rw [Enc.layD, if_pos h18] at hA
          rw [Enc.szD, if_pos h18] at hk ⊢
          rw [hg0, List.drop_zero] at hA h3 hTr
          rw [hg0, List.drop_zero, List.take_zero, szD_nil] at hk ⊢
          have hh : ∀ n, ((encOf x).hd a n).length = (encOf x).hs a := fun n => hd_len x (.inr ⟨hv1, hv2⟩) n
          have g1 := back_plain (x := x) (ys := ys) (a := a) (k := k) (fin := fin) (m := m) (d := 2 * d) (last := t.toNat) h1.1 h18 hTa.2 hTa.1 (by omega) hA.left.left (hA.left.right' (hh _)) (by omega) (by omega)
          obtain ⟨t2, g2⟩ := (ih false d a.t (c - 1) r hrf h3 hTr hTa.1 (k + (encOf x).hs a + ((encOf x).pv a).length) fin (m + [bkN x a].length) false (fun _ => rfl) (by
            rw [Nat.add_assoc]
            exact hA.right' (by rw [List.length_append, hh])) (by omega) hfin (by show m + 1 + r.length ≤ 4096; omega)).1 rfl
          have g3 := g1.trans g2
          refine ⟨t2, ?_⟩
          rw [show 1 + (c - 1) = c by omega] at g3
          rw [show k + ((encOf x).hs a + ((encOf x).pv a).length + 0 + (encOf x).szD f false r) = k + (encOf x).hs a + ((encOf x).pv a).length + (encOf x).szD f false r by omega]
          exact g3
      | true =>
        refine ⟨fun e => (by cases e), fun _ => ?_⟩
        have h1 : itemOk a = true ∧ d + 1 ≤ 4 := h1
        have h2 : wt elemOk itemOk f false (d + 1) 0 a.n.toNat (r.take (goN r a.n.toNat)) := h2
        have hw2 : wf elemOk itemOk f false (r.take (goN r a.n.toNat)) := hw2
        rw [Enc.layD] at hA
        rw [Enc.szD] at hk ⊢
        have hl2 := lay_len x hw2 (by omega)
        have hh : ∀ n, ((encOf x).ih n).length = 8 := fun n => by cases x <;> exact plL_len _ _
        have hAi := hA.left.right' (hh _)
        have hAr := hA.right' (n := 8 + (encOf x).szD f false (r.take (goN r a.n.toNat))) (by rw [List.length_append, hh, hl2])
        have g1 := back_item (x := x) (opn := opn) (ys := ys) (a := a) (k := k) (fin := fin) (m := m) (d := d) (z := (encOf x).szD f false (r.take (goN r a.n.toNat))) (X := (r.take (goN r a.n.toNat)).map (bkN x)) h1.1 h1.2 (szD_even x hw2) hA.left.left (by omega) hfin (by omega)
          ((ih false (d + 1) 0 _ _ (by omega) h2 hTi (Int.le_refl 0) (k + 8) (k + 8 + (encOf x).szD f false (r.take (goN r a.n.toNat))) (m + 1) false (fun _ => rfl) hAi (Nat.le_refl _) (by omega) (by omega)).1 rfl)
        have g2 := (ih true d a.t (c - 1) _ (by omega) h3 hTr hTa.1 (k + 8 + (encOf x).szD f false (r.take (goN r a.n.toNat))) fin (m + (bkN x a :: (r.take (goN r a.n.toNat)).map (bkN x)).length) opn (fun e => (by cases e)) (by
          rw [Nat.add_assoc k]
          exact hAr) (by omega) hfin (by simp only [List.length_cons, List.length_map]; omega)).2 rfl
        have g3 := g1.trans g2
        rw [List.cons_append, map_cut, show 1 + (c - 1) = c by omega] at g3
        rw [show k + (8 + (encOf x).szD f false (r.take (goN r a.n.toNat)) + (encOf x).szD f true (r.drop (goN r a.n.toNat))) = k + 8 + (encOf x).szD f false (r.take (goN r a.n.toNat)) + (encOf x).szD f true (r.drop (goN r a.n.toNat)) by omega]
        exact g3
end Go.Proofs.YtfoodjhffehgpaaGreatDoor
end
