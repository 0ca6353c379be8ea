import Derived.Test.YtfoodjhffehgpaaGreatDoorQc
section
/-
  DERIVED. A data set laid down in any of the forms, and read again. Plain functions.
-/
namespace Go.Proofs.YtfoodjhffehgpaaGreatDoor
open Go Go.Proofs Go.RowKit
open Wk (Nd goN)

/-- A head, with letters or without. -/
def hdX (x : Bool) (t : Nat) (v : Int) (n : Nat) : List UInt8 := if x = true then exL t v n else plL t n
def hzX (x : Bool) (v : Int) : Nat := if x = true then (if Rp.lo (Rp.vn v) = true then 12 else 8) else 8
theorem hdX_len {x : Bool} {v : Int} (h : 1 ≤ v ∧ v ≤ 28) (t n : Nat) : (hdX x t v n).length = hzX x v := by
  cases x
  · exact plL_len _ _
  · exact exL_len h t n
theorem hzX_ev (x : Bool) (v : Int) : hzX x v % 2 = 0 ∧ 8 ≤ hzX x v ∧ hzX x v ≤ 12 := by
  unfold hzX
  split
  · split <;> omega
  · omega
/-- A group length, if it is chosen. -/
def grp (ch : Nat → Bool) (x : Bool) (g q i t : Nat) : List UInt8 × Nat := if t / 65536 = g then ([], q) else (if ch q = true then hdX x (t / 65536 * 65536) 24 4 ++ le 4 (i * 77) else [], q + 1)
/-- The letters of an element. -/
def vrP (ch : Nat → Bool) (x known : Bool) (v : Int) (q : Nat) : Int × Nat := if (x && known) = true then (if ch q = true then 25 else v, q + 1) else (v, q)
/-- Those of a sequence. -/
def vrS (ch : Nat → Bool) (s x known o : Bool) (q : Nat) : Int × Nat := if (x && s) = true then (if (ch q && (known || o)) = true then 25 else 18, q + 1) else (18, q)
/-- Elements, items: the bytes, and how many choices were made. -/
def frm (ch : Nat → Bool) (st : List Nd → Bool) : Nat → Bool → Bool → Nat → Nat → Nat → List Nd → List UInt8 × Nat
  | 0, _, _, _, q, _, _ => ([], q)
  | _ + 1, _, _, _, q, _, [] => ([], q)
  | f + 1, false, x, g, q, i, a :: r =>
    let n := goN r a.n.toNat
    let G := grp ch x g q i a.t.toNat
    if a.v ≠ 18 then
      let V := vrP ch x (fnd a).isSome a.v G.2
      let R := frm ch st f false x (a.t.toNat / 65536) V.2 (i + 1 + n) (r.drop n)
      (G.1 ++ (hdX x a.t.toNat V.1 (pvL a.v a.s).length ++ pvL a.v a.s) ++ R.1, R.2)
    else
      let o := ch G.2 || (!x && !(fnd a).isSome)
      let V := vrS ch (st (a :: r.take n)) x (fnd a).isSome o (G.2 + 1)
      let I := frm ch st f true (x && decide (V.1 = 18)) 0 V.2 (i + 1) (r.take n)
      let R := frm ch st f false x (a.t.toNat / 65536) I.2 (i + 1 + n) (r.drop n)
      (G.1 ++ (hdX x a.t.toNat V.1 (if o = true then 4294967295 else I.1.length) ++ (I.1 ++ (if o = true then plL 4294893789 0 else []))) ++ R.1, R.2)
  | f + 1, true, x, _, q, i, a :: r =>
    let n := goN r a.n.toNat
    let I := frm ch st f false x 0 q (i + 1) (r.take n)
    let o := ch I.2
    let R := frm ch st f true x 0 (I.2 + 1) (i + 1 + n) (r.drop n)
    ((plL 4294893568 (if o = true then 4294967295 else I.1.length) ++ (I.1 ++ (if o = true then plL 4294893581 0 else []))) ++ R.1, R.2)

/-- A head is read so. -/
def HdAt (ys : List UInt8) (x : Bool) (k fin : Nat) (a : Nd) (sz n : Nat) (xi : Bool) : Prop :=
  ∃ g : Hd, (srcS ys).tag k = a.t.toNat ∧ (srcS ys).hd x k fin = .inr g ∧ g.sz = sz ∧ g.len = n ∧ g.v = (bkN x a).v ∧ (a.v = 18 → g.ex = xi)
theorem hdI_at {ys : List UInt8} {k fin n : Nat} {a : Nd} (ha : elemOk a = true) (h0 : 0 ≤ a.t) (ht : a.t < 4294967296) (h : At ys k (plL a.t.toNat n)) (hn : n < 4294967296) (h1 : a.v ≠ 18 → n ≠ und) (h2 : a.v = 18 → (fnd a).isSome = true ∨ n = und) : HdAt ys false k fin a 8 n false := by
  obtain ⟨e1, e2⟩ := at_pl h (by omega) hn
  obtain ⟨m1, m2⟩ := elem_may ha
  obtain ⟨b1, b2, b3, b4⟩ := may_tag m1
  obtain ⟨hv1, hv2, -⟩ := elem_vr ha
  refine ⟨hdI ys k, e1, rfl, rfl, e2, ?_, fun _ => rfl⟩
  show (if numS ys (k + 4) = und ∧ (kn (tagS ys k)).isSome = false ∧ tagS ys k % 65536 ≠ 0 then 18 else dflt (tagS ys k)) = (imN a).v
  rw [e1, e2]
  have hkn : kn a.t.toNat = fnd a := rfl
  unfold imN
  by_cases hk : (fnd a).isSome = true
  · rw [if_neg (fun e => by rw [hkn, hk] at e; cases e.2.1), if_pos (.inr (.inr hk)), dflt_kn m1 (hkn ▸ hk), ← m2 (hkn ▸ hk)]
  · by_cases h18 : a.v = 18
    · rw [if_pos ⟨(h2 h18).resolve_left hk, by rw [hkn]; simpa using hk, b2⟩, if_pos (.inr (.inl h18)), h18]
    · rw [if_neg (fun e => h1 h18 e.1), if_neg (by rintro (e | e | e); omega; exact h18 e; exact hk e)]
theorem hdE_at {ys : List UInt8} {k fin n : Nat} {a : Nd} (ha : elemOk a = true) (h0 : 0 ≤ a.t) (ht : a.t < 4294967296) (h : At ys k (exL a.t.toNat a.v n)) (hn : n < 4294967296) (h1 : a.v ≠ 18 → n ≠ und) (hs : Rp.lo (Rp.vn a.v) = false → n < 65536) (hf : k + hzX true a.v ≤ fin) : HdAt ys true k fin a (hzX true a.v) n true := by
  obtain ⟨m1, h2⟩ := elem_may ha
  obtain ⟨b1, b2, b3, b4⟩ := may_tag m1
  obtain ⟨hv1, hv2, -⟩ := elem_vr ha
  unfold exL at h
  have e1 := at_tag h.left.left (show a.t.toNat < 4294967296 by omega)
  have e2 := at_vr (h.left.right' (tagL_len _)) ⟨hv1, hv2⟩
  have e3 := h.right' (n := 6) (by rw [List.length_append, tagL_len, ltr_len ⟨hv1, hv2⟩])
  have hf : k + (if Rp.lo (Rp.vn a.v) = true then 12 else 8) ≤ fin := hf
  have hlv : Rp.lo (Rp.vn a.v) = Rp.lo (vrE ys k) := by rw [e2, vn_of ⟨hv1, hv2⟩]
  have hcast : ((vrE ys k : Nat) : Int) = a.v := by rw [e2]; omega
  rw [hlv] at e3 hf hs
  have e4 : (hE0 ys k).len = n := by
    show (if Rp.lo (vrE ys k) = true then numS ys (k + 8) else u16S ys (k + 6)) = n
    by_cases hl : Rp.lo (vrE ys k) = true
    · rw [if_pos hl] at e3 ⊢
      exact at_num (e3.right' rfl) hn
    · rw [if_neg hl] at e3 ⊢
      rw [at_u16 e3]
      have := hs (by simpa using hl)
      omega
  have hmay : mayT (tagS ys k) (vrE ys k) = true := by
    unfold mayT
    rw [e1, if_neg b2, hcast]
    by_cases hk : (kn a.t.toNat).isSome = true
    · rw [h2 hk]; simp
    · simp [hk]
  have hgo : (srcS ys).hd true k fin = .inr (if vrE ys k = 25 then unk (tagS ys k) (hE0 ys k) else hE0 ys k) := by
    show hdE ys k fin = _
    unfold hdE
    rw [if_neg (by omega), if_neg (fun e => by rw [if_pos e.1] at hf; omega), if_neg (by rw [hmay]; simp)]
  refine ⟨_, e1, hgo, ?_, ?_, ?_, ?_⟩
  · show _ = if Rp.lo (Rp.vn a.v) = true then 12 else 8
    rw [hlv]
    split <;> rfl
  · split <;> exact e4
  · show _ = a.v
    by_cases h25 : vrE ys k = 25
    · rw [if_pos h25]
      show (if (kn (tagS ys k)).isSome = true then Tb.eV (kn (tagS ys k)) else if (hE0 ys k).len = und then 18 else (vrE ys k : Int)) = a.v
      rw [e1, e4, if_neg (h1 (by omega))]
      split
      · rename_i hk; exact (h2 hk).symm
      · exact hcast
    · rw [if_neg h25]
      exact hcast
  · intro h18
    rw [if_neg (by omega)]
    rfl
theorem lo_un : Rp.lo 25 = true := by decide +kernel
theorem lo_ul : Rp.lo 24 = false := by decide +kernel
/-- With the letters UN. -/
theorem hdU_at {ys : List UInt8} {k fin n : Nat} {a : Nd} (ha : elemOk a = true) (h0 : 0 ≤ a.t) (ht : a.t < 4294967296) (h : At ys k (exL a.t.toNat 25 n)) (hn : n < 4294967296) (h1 : (fnd a).isSome = true ∨ (a.v = 18 ∧ n = und)) (hf : k + 12 ≤ fin) : HdAt ys true k fin a 12 n false := by
  obtain ⟨m1, h2⟩ := elem_may ha
  obtain ⟨b1, b2, b3, b4⟩ := may_tag m1
  have hv : (1 : Int) ≤ 25 ∧ (25 : Int) ≤ 28 := by decide
  have hvn : Rp.vn 25 = 25 := by rw [vn_of hv]; rfl
  unfold exL at h
  rw [hvn, if_pos lo_un] at h
  have e1 := at_tag h.left.left (show a.t.toNat < 4294967296 by omega)
  have e2 : vrE ys k = 25 := at_vr (h.left.right' (tagL_len _)) hv
  have e3 := h.right' (n := 6) (by rw [List.length_append, tagL_len, ltr_len hv])
  have e4 : (hE0 ys k).len = n := by
    show (if Rp.lo (vrE ys k) = true then numS ys (k + 8) else u16S ys (k + 6)) = n
    rw [e2, if_pos lo_un]
    exact at_num (e3.right' rfl) hn
  have hmay : mayT (tagS ys k) (vrE ys k) = true := by
    unfold mayT
    rw [e1, if_neg b2, e2]
    simp
  have hgo : (srcS ys).hd true k fin = .inr (unk (tagS ys k) (hE0 ys k)) := by
    show hdE ys k fin = _
    unfold hdE
    rw [if_neg (by omega), if_neg (fun e => by omega), if_neg (by rw [hmay]; simp), if_pos e2]
  refine ⟨_, e1, hgo, ?_, e4, ?_, fun _ => rfl⟩
  · show (if Rp.lo (vrE ys k) = true then 12 else 8) = 12
    rw [e2, if_pos lo_un]
  · show (if (kn (tagS ys k)).isSome = true then Tb.eV (kn (tagS ys k)) else if (hE0 ys k).len = und then 18 else (vrE ys k : Int)) = a.v
    rw [e1, e4]
    rcases h1 with hk | ⟨h18, hu⟩
    · rw [if_pos (show (kn a.t.toNat).isSome = true from hk)]
      exact (h2 hk).symm
    · rw [if_pos hu]
      split
      · rename_i hk; exact (h2 hk).symm
      · exact h18.symm

/-- In a room, open or not: no mark. -/
theorem step_elo {S : Src} {k fin last : Nat} {M : List Nd} {x opn : Bool} {nd : Option Nat} {rest : List Sp} {h : Hd} (hf : k + 8 ≤ fin) (hb : isBar (S.tag k) = false) (hl : last < S.tag k) (hh : S.hd x k fin = .inr h) : step S k M (rsp fin opn x last nd) rest = stepB S k M (rsp fin opn x last nd) rest h := by
  rw [zs_in (.inr (show k < fin by omega)) (show ¬ fin - k < 8 by omega) (fun e => by
    have e2 : S.tag k = 4294893581 := e.2
    rw [e2] at hb
    revert hb
    decide)]
  show stepE S k M (rsp fin opn x last nd) rest = _
  unfold stepE
  rw [if_neg (fun e => by
    rcases e with e | e
    · rw [hb] at e; cases e
    · have e : S.tag k ≤ last := e
      omega)]
  show (match S.hd x k fin with
    | .inl c => Res.bad k c
    | .inr h => stepB S k M (rsp fin opn x last nd) rest h) = _
  rw [hh]
theorem plainF {x opn : Bool} {ys : List UInt8} {a : Nd} {k fin m d last sz : Nat} (ha : elemOk a = true) (h18 : a.v ≠ 18) (h0 : 0 ≤ a.t) (hl : last < a.t.toNat) (h8 : 8 ≤ sz) (hg : HdAt ys x k fin a sz (pvL a.v a.s).length false ∨ HdAt ys x k fin a sz (pvL a.v a.s).length true) (hP : At ys (k + sz) (pvL a.v a.s)) (hf : k + sz + (pvL a.v a.s).length ≤ fin) (hm : m < 4096) :
    GoesFor (srcS ys) m d (rsp fin opn x last) (rsp fin opn x a.t.toNat) k (k + sz + (pvL a.v a.s).length) 1 [bkN x a] := by
  obtain ⟨hn0, -⟩ := (fitX x).el a ha h18
  obtain ⟨-, -, hsz⟩ := elem_vr ha
  have hpl : (pvL a.v a.s).length = a.s.size + a.s.size % 2 := pvL_len _ _
  obtain ⟨m1, m2, m3, m4⟩ := may_tag (elem_may ha).1
  obtain ⟨g, g1, g2, g3, g4, g5⟩ : ∃ g : Hd, (srcS ys).tag k = a.t.toNat ∧ (srcS ys).hd x k fin = .inr g ∧ g.sz = sz ∧ g.len = (pvL a.v a.s).length ∧ g.v = (bkN x a).v := by
    rcases hg with ⟨g, e1, e2, e3, e4, e5, -⟩ | ⟨g, e1, e2, e3, e4, e5, -⟩ <;> exact ⟨g, e1, e2, e3, e4, e5⟩
  have hel : ElGo (srcS ys) (m + ([] : List Nd).length) d fin x k g (k + g.sz + g.len) [⟨(srcS ys).tag k, g.v, 0, (srcS ys).val g.v (k + g.sz) g.len⟩] := by
    refine ElGo.plain ?_ ?_ ?_ (by rw [g1]; exact m2) (by show m + 0 ≠ 4096; omega) (by rw [g5]; exact bk_v x ha h18)
    · unfold badLen
      rw [g4, decide_eq_false (show ¬ (pvL a.v a.s).length = und by unfold und; omega), decide_eq_false (show ¬ (pvL a.v a.s).length % 2 = 1 by omega)]
      simp
    · rw [g4]; omega
    · rw [g3, g4]; omega
  have hgo := (GoesFor.start (srcS ys) m d (rsp fin opn x last) k).elem (fun M nd rest => step_elo (by omega) (by rw [g1]; exact m1) (by rw [g1]; exact hl) g2) hel
  have hv := at_val (x := x) (ys := ys) (k := k + sz) ha h18 (by rw [encOf_pv]; exact hP)
  rw [encOf_pv] at hv
  rw [g1, if_neg m2, g3, g4, g5, hv] at hgo
  have e : ((⟨(a.t.toNat : Int), (bkN x a).v, 0, (bkN x a).s⟩ : Nd)) = bkN x a := by
    have e1 := bkN_t x a
    have e2 := bkN_n x a
    rw [hn0] at e2
    rw [show (a.t.toNat : Int) = (bkN x a).t by omega, ← e2]
  rw [e] at hgo
  exact hgo
theorem seqF {x opn o xi : Bool} {ys : List UInt8} {a : Nd} {k fin m d last z sz : Nat} {X : List Nd} (ha : elemOk a = true) (h18 : a.v = 18) (h0 : 0 ≤ a.t) (hl : last < a.t.toNat) (hze : z % 2 = 0) (h8 : 8 ≤ sz)
    (hg : HdAt ys x k fin a sz (if o = true then 4294967295 else z) xi) (hM : o = true → At ys (k + sz + z) (plL 4294893789 0)) (hf : k + sz + z + (if o = true then 8 else 0) ≤ fin) (hfin : fin ≤ 1048576) (hm : m < 4096)
    (hin : ∀ fin2, k + sz + z ≤ fin2 → fin2 ≤ 1048576 → GoesFor (srcS ys) (m + 1) (2 * d + 1) (isp fin2 o xi) (isp fin2 o xi) (k + sz) (k + sz + z) a.n.toNat X) :
    GoesFor (srcS ys) m (2 * d) (rsp fin opn x last) (rsp fin opn x a.t.toNat) k (k + sz + z + (if o = true then 8 else 0)) 1 (bkN x a :: X) := by
  obtain ⟨m1, m2, m3, m4⟩ := may_tag (elem_may ha).1
  have hzf : k + sz + z ≤ fin := by omega
  obtain ⟨g, g1, g2, g3, g4, g5, g6⟩ := hg
  have gv : g.v = 18 := by rw [g5, bkN_sq x (.inr h18)]; exact h18
  have gx := g6 h18
  have hbl : ¬ badLen g = true := by
    unfold badLen
    rw [gv, g4]
    split
    · rw [decide_eq_true (show (4294967295 : Nat) = und from rfl)]; simp
    · rw [decide_eq_false (show ¬ z % 2 = 1 by omega)]; simp
  have hsh : ¬ (g.len ≠ und ∧ fin - k - g.sz < g.len) := by
    rw [g3, g4]
    split
    · exact fun e => e.1 rfl
    · intro e; omega
  have hout : OutFor (srcS ys) (m + ([] : List Nd).length + 1) (2 * d + 1) (isp (if g.len = und then fin else k + g.sz + g.len) (decide (g.len = und)) g.ex) (k + g.sz) (k + sz + z + (if o = true then 8 else 0)) a.n.toNat X := by
    rw [g3, g4, gx]
    cases o with
    | true =>
      rw [if_pos rfl] at hf
      rw [if_pos rfl, if_pos rfl, if_pos (show (4294967295 : Nat) = und from rfl), decide_eq_true (show (4294967295 : Nat) = und from rfl)]
      refine (hin fin hzf hfin).out fun M nd rest => ?_
      obtain ⟨e1, e2⟩ := at_pl (hM rfl) (by decide) (by decide)
      rw [zs_mark rfl (show ¬ fin - _ < 8 by omega) (show tagS ys _ = mark true from e1), if_neg (fun e => e (show numS ys _ = 0 from e2))]
    | false =>
      simp only [Bool.false_eq_true, if_false]
      rw [if_neg (show ¬ z = und by unfold und; omega), decide_eq_false (show ¬ z = und by unfold und; omega)]
      exact (hin _ (Nat.le_refl _) (by omega)).out fun M nd rest => zs_end rfl rfl
  have hel : ElGo (srcS ys) (m + ([] : List Nd).length) (2 * d) fin x k g (k + sz + z + (if o = true then 8 else 0)) (sqN ((srcS ys).tag k) a.n.toNat :: X) :=
    ElGo.seq (by rw [g1]; exact m2) (fun M nd rest opn last hM => stepB_seq hbl gv hsh (by rw [g1]; exact m2) (by rw [hM]; show m + 0 ≠ 4096; omega)) hout
  have hgo := (GoesFor.start (srcS ys) m (2 * d) (rsp fin opn x last) k).elem (fun M nd rest => step_elo (by omega) (by rw [g1]; exact m1) (by rw [g1]; exact hl) g2) hel
  rw [g1, if_neg m2] at hgo
  have e : sqN a.t.toNat a.n.toNat = bkN x a := by
    rw [bkN_sq x (.inr h18)]
    have e1 := size_nil (elem_sq ha h18)
    have e2 := (elem_n a ha).1
    unfold sqN
    rw [show (a.t.toNat : Int) = a.t by omega, show (a.n.toNat : Int) = a.n by omega, ← h18, ← e1]
  rw [e] at hgo
  exact hgo
theorem itemF {x opn o : Bool} {ys : List UInt8} {a : Nd} {k fin m d z : Nat} {X : List Nd} (ha : itemOk a = true) (hd : d + 1 ≤ 4) (hze : z % 2 = 0) (hA : At ys k (plL 4294893568 (if o = true then 4294967295 else z))) (hM : o = true → At ys (k + 8 + z) (plL 4294893581 0)) (hf : k + 8 + z + (if o = true then 8 else 0) ≤ fin) (hfin : fin ≤ 1048576) (hm : m < 4096)
    (hin : ∀ fin2, k + 8 + z ≤ fin2 → fin2 ≤ 1048576 → ∃ t2, GoesFor (srcS ys) (m + 1) (2 * (d + 1)) (rsp fin2 o x 0) (rsp fin2 o x t2) (k + 8) (k + 8 + z) a.n.toNat X) :
    GoesFor (srcS ys) m (2 * d + 1) (isp fin opn x) (isp fin opn x) k (k + 8 + z + (if o = true then 8 else 0)) 1 (bkN x a :: X) := by
  obtain ⟨i1, i2, i3⟩ := item_all ha
  obtain ⟨e1, e2⟩ := at_pl hA (by decide) (by split <;> omega)
  have e1 : (srcS ys).tag k = 4294893568 := e1
  have e2 : (srcS ys).num (k + 4) = if o = true then 4294967295 else z := e2
  have hzu : z ≠ und := by unfold und; omega
  have hout : OutFor (srcS ys) (m + ([] : List Nd).length + 1) (2 * (d + 1)) (rsp (if o = true then fin else k + 8 + z) o x 0) (k + 8) (k + 8 + z + (if o = true then 8 else 0)) a.n.toNat X := by
    cases o with
    | true =>
      rw [if_pos rfl] at hf ⊢
      rw [if_pos rfl]
      obtain ⟨t2, hi⟩ := hin fin (by omega) hfin
      refine hi.out fun M nd rest => ?_
      obtain ⟨e1, e2⟩ := at_pl (hM rfl) (by decide) (by decide)
      rw [zs_mark rfl (show ¬ fin - _ < 8 by omega) (show tagS ys _ = mark false from e1), if_neg (fun e => e (show numS ys _ = 0 from e2))]
    | false =>
      simp only [Bool.false_eq_true, if_false]
      obtain ⟨t2, hi⟩ := hin _ (Nat.le_refl _) (by omega)
      exact hi.out fun M nd rest => zs_end rfl rfl
  have hgo := (GoesFor.start (srcS ys) m (2 * d + 1) (isp fin opn x) k).item (fun M nd rest hM hr => by
    rw [zs_in (.inr (show k < fin by omega)) (show ¬ fin - k < 8 by omega) (fun e => by rw [e1] at e; have e := e.2; revert e; show ¬ 4294893568 = 4294893789; decide)]
    show stepI (srcS ys) k M (isp fin opn x nd) rest = _
    rw [stepI_go e1 (by rw [e2]; split; exact fun e => e.1 rfl; exact fun e => by omega) (by rw [hr]; omega) (by rw [e2]; split; exact fun e => e.1 rfl; exact fun e => by have := e.2; change fin - k - 8 < z at this; omega) (by rw [hM]; show m + 0 ≠ 4096; omega)]
    rw [e2]
    cases o with
    | true =>
      rw [if_pos rfl, if_pos rfl, if_pos (show (4294967295 : Nat) = und from rfl), decide_eq_true (show (4294967295 : Nat) = und from rfl)]
      rfl
    | false =>
      simp only [Bool.false_eq_true, if_false]
      rw [if_neg hzu, decide_eq_false hzu]
      rfl) hout
  have e : itN a.n.toNat = bkN x a := by
    rw [bkN_sq x (.inl i2)]
    have e1 := size_nil i3
    have e2 := item_n a ha
    unfold itN
    rw [show (a.n.toNat : Int) = a.n by omega, ← i2, ← i1, ← e1]
  rw [e] at hgo
  exact hgo
end Go.Proofs.YtfoodjhffehgpaaGreatDoor
end

section
/-
  DERIVED. A data set laid down in any of the forms is read as itself. Plain functions.
-/
namespace Go.Proofs.YtfoodjhffehgpaaGreatDoor
open Go Go.Proofs Go.RowKit
open Wk (Nd goN)

theorem bar_grp {t : Nat} (h : isBar t = false) : isBar (t / 65536 * 65536) = false := by
  unfold isBar at h ⊢
  rw [Nat.mul_div_cancel _ (by decide)]
  exact h
/-- A group length is passed. -/
theorem grpF {x opn : Bool} {ys : List UInt8} {t k fin m d last n : Nat} (hb : isBar t = false) (ht : t < 4294967296) (hl : last < t) (hg : t / 65536 ≠ last / 65536) (hA : At ys k (hdX x (t / 65536 * 65536) 24 4 ++ le 4 n)) (hf : k + 12 ≤ fin) :
    GoesFor (srcS ys) m d (rsp fin opn x last) (rsp fin opn x (t / 65536 * 65536)) k (k + 12) 0 [] := by
  have hv : (1 : Int) ≤ 24 ∧ (24 : Int) ≤ 28 := by decide
  have hvn : Rp.vn 24 = 24 := by rw [vn_of hv]; rfl
  have htg : t / 65536 * 65536 < 4294967296 := by omega
  have hmod : t / 65536 * 65536 % 65536 = 0 := Nat.mul_mod_left _ _
  have hbg := bar_grp hb
  obtain ⟨g, g1, g2, g3, g4, g5⟩ : ∃ g : Hd, (srcS ys).tag k = t / 65536 * 65536 ∧ (srcS ys).hd x k fin = .inr g ∧ g.sz = 8 ∧ g.len = 4 ∧ g.v = 24 := by
    cases x with
    | false =>
      obtain ⟨e1, e2⟩ := at_pl (show At ys k (plL (t / 65536 * 65536) 4) from hA.left) htg (by decide)
      refine ⟨hdI ys k, e1, rfl, rfl, e2, ?_⟩
      show (if numS ys (k + 4) = und ∧ (kn (tagS ys k)).isSome = false ∧ tagS ys k % 65536 ≠ 0 then 18 else dflt (tagS ys k)) = 24
      rw [e1, if_neg (fun e => e.2.2 hmod)]
      exact (dflt_v hbg).2.2 hmod
    | true =>
      have h : At ys k (exL (t / 65536 * 65536) 24 4) := hA.left
      unfold exL at h
      rw [hvn, if_neg (by rw [lo_ul]; decide)] at h
      have e1 := at_tag h.left.left htg
      have e2 : vrE ys k = 24 := at_vr (h.left.right' (tagL_len _)) hv
      have e3 := h.right' (n := 6) (by rw [List.length_append, tagL_len, ltr_len hv])
      have hmay : mayT (tagS ys k) (vrE ys k) = true := by
        unfold mayT
        rw [e1, if_pos hmod, e2]
        rfl
      refine ⟨hE0 ys k, e1, ?_, ?_, ?_, ?_⟩
      · show hdE ys k fin = _
        unfold hdE
        rw [if_neg (by omega), if_neg (fun e => by rw [e2, lo_ul] at e; cases e.1), if_neg (by rw [hmay]; simp), if_neg (by omega)]
      · show (if Rp.lo (vrE ys k) = true then 12 else 8) = 8
        rw [e2, lo_ul]; rfl
      · show (if Rp.lo (vrE ys k) = true then numS ys (k + 8) else u16S ys (k + 6)) = 4
        rw [e2, lo_ul, if_neg (by decide), at_u16 e3]
      · show ((vrE ys k : Nat) : Int) = 24
        rw [e2]; rfl
  have hel : ElGo (srcS ys) (m + ([] : List Nd).length) d fin x k g (k + g.sz + g.len) [] := by
    refine ElGo.none ?_ ?_ ?_ (by rw [g1]; exact hmod)
    · unfold badLen
      rw [g4, decide_eq_false (show ¬ 4 = und by decide), decide_eq_false (show ¬ 4 % 2 = 1 by decide)]
      simp
    · rw [g4]; omega
    · rw [g3, g4]; omega
  have hgo := (GoesFor.start (srcS ys) m d (rsp fin opn x last) k).elem (fun M nd rest => step_elo (by omega) (by rw [g1]; exact hbg) (by rw [g1]; omega) g2) hel
  rw [g1, if_pos hmod, g3, g4] at hgo
  exact hgo

theorem grp_ev (ch : Nat → Bool) (x : Bool) (g q i t : Nat) : (grp ch x g q i t).1.length = 0 ∨ (grp ch x g q i t).1.length = 12 := by
  unfold grp
  split
  · exact .inl rfl
  · split
    · right
      rw [List.length_append, hdX_len (by decide), le_len]
      unfold hzX
      rw [show Rp.vn 24 = 24 by rw [vn_of (by decide)]; rfl, lo_ul]
      cases x <;> rfl
    · exact .inl rfl
theorem vrP_ok (ch : Nat → Bool) (x known : Bool) (v : Int) (q : Nat) (h : 1 ≤ v ∧ v ≤ 28) : (1 ≤ (vrP ch x known v q).1 ∧ (vrP ch x known v q).1 ≤ 28) ∧ ((vrP ch x known v q).1 = v ∨ ((vrP ch x known v q).1 = 25 ∧ x = true ∧ known = true)) := by
  unfold vrP
  by_cases hx : (x && known) = true
  · rw [if_pos hx]
    have hx2 : x = true ∧ known = true := by simpa using hx
    by_cases hc : ch q = true
    · rw [if_pos hc]; exact ⟨show (1 : Int) ≤ 25 ∧ (25 : Int) ≤ 28 by decide, .inr ⟨rfl, hx2⟩⟩
    · rw [if_neg hc]; exact ⟨h, .inl rfl⟩
  · rw [if_neg hx]; exact ⟨h, .inl rfl⟩
theorem vrS_ok (ch : Nat → Bool) (s x known o : Bool) (q : Nat) : (1 ≤ (vrS ch s x known o q).1 ∧ (vrS ch s x known o q).1 ≤ 28) ∧ ((vrS ch s x known o q).1 = 18 ∨ ((vrS ch s x known o q).1 = 25 ∧ x = true ∧ s = true ∧ (known = true ∨ o = true))) := by
  unfold vrS
  by_cases hx : (x && s) = true
  · rw [if_pos hx]
    have hx2 : x = true ∧ s = true := by simpa using hx
    by_cases hc : (ch q && (known || o)) = true
    · rw [if_pos hc]
      have hc2 : known = true ∨ o = true := by
        have := (Bool.and_eq_true _ _ ▸ hc : ch q = true ∧ (known || o) = true).2
        simpa using this
      exact ⟨show (1 : Int) ≤ 25 ∧ (25 : Int) ≤ 28 by decide, .inr ⟨rfl, hx2.1, hx2.2, hc2⟩⟩
    · rw [if_neg hc]; exact ⟨show (1 : Int) ≤ 18 ∧ (18 : Int) ≤ 28 by decide, .inl rfl⟩
  · rw [if_neg hx]; exact ⟨show (1 : Int) ≤ 18 ∧ (18 : Int) ≤ 28 by decide, .inl rfl⟩
/-- All of it has an even length. -/
theorem frm_ev (ch : Nat → Bool) (st : List Nd → Bool) : ∀ (f : Nat) (b x : Bool) (g q i : Nat) (M : List Nd), wf elemOk itemOk f b M → (frm ch st f b x g q i M).1.length % 2 = 0
  | 0, _, _, _, _, _, _, _ => rfl
  | _ + 1, _, _, _, _, _, [], _ => by simp [frm]
  | f + 1, false, x, g, q, i, a :: r, h => by
    obtain ⟨h1, h2, h3⟩ := h
    have ha : elemOk a = true := by simpa using h1
    obtain ⟨hv1, hv2, -⟩ := elem_vr ha
    have hG := grp_ev ch x g q i a.t.toNat
    have hp : (pvL a.v a.s).length % 2 = 0 := by rw [pvL_len]; omega
    rw [frm]
    by_cases h18 : a.v ≠ 18
    · rw [if_pos h18]
      have i2 := frm_ev ch st f false x (a.t.toNat / 65536) (vrP ch x (fnd a).isSome a.v (grp ch x g q i a.t.toNat).2).2 (i + 1 + goN r a.n.toNat) _ h3
      have e := (hzX_ev x (vrP ch x (fnd a).isSome a.v (grp ch x g q i a.t.toNat).2).1).1
      simp only [List.length_append, hdX_len (vrP_ok ch x (fnd a).isSome a.v (grp ch x g q i a.t.toNat).2 ⟨hv1, hv2⟩).1]
      omega
    · rw [if_neg h18]
      simp only
      generalize hV : vrS ch (st (a :: r.take (goN r a.n.toNat))) x (fnd a).isSome (ch (grp ch x g q i a.t.toNat).2 || (!x && !(fnd a).isSome)) ((grp ch x g q i a.t.toNat).2 + 1) = V
      have hV1 : 1 ≤ V.1 ∧ V.1 ≤ 28 := by rw [← hV]; exact (vrS_ok _ _ _ _ _ _).1
      have i1 := frm_ev ch st f true (x && decide (V.1 = 18)) 0 V.2 (i + 1) _ h2
      have i2 := frm_ev ch st f false x (a.t.toNat / 65536) (frm ch st f true (x && decide (V.1 = 18)) 0 V.2 (i + 1) (r.take (goN r a.n.toNat))).2 (i + 1 + goN r a.n.toNat) _ h3
      have e := (hzX_ev x V.1).1
      simp only [List.length_append, hdX_len hV1]
      split <;> simp only [plL_len, List.length_nil] <;> omega
  | f + 1, true, x, g, q, i, a :: r, h => by
    obtain ⟨h1, h2, h3⟩ := h
    rw [frm]
    simp only
    have i1 := frm_ev ch st f false x 0 q (i + 1) _ h2
    have i2 := frm_ev ch st f true x 0 ((frm ch st f false x 0 q (i + 1) (r.take (goN r a.n.toNat))).2 + 1) (i + 1 + goN r a.n.toNat) _ h3
    simp only [List.length_append, plL_len]
    split <;> simp only [plL_len, List.length_nil] <;> omega
theorem grp_next {ch : Nat → Bool} {x : Bool} {g q i t : Nat} : (grp ch x g q i t).1 = [] ∨ (t / 65536 ≠ g ∧ (grp ch x g q i t).1 = hdX x (t / 65536 * 65536) 24 4 ++ le 4 (i * 77)) := by
  unfold grp
  by_cases h : t / 65536 = g
  · rw [if_pos h]; exact .inl rfl
  · rw [if_neg h]
    by_cases hc : ch q = true
    · rw [if_pos hc]; exact .inr ⟨h, rfl⟩
    · rw [if_neg hc]; exact .inl rfl
/-- Up to an element, past its group's length if there is one. -/
theorem grp_go {ch : Nat → Bool} {x opn : Bool} {ys : List UInt8} {g q i t k fin m d last : Nat} (hb : isBar t = false) (ht : t < 4294967296) (hl : last < t) (hm : t % 65536 ≠ 0) (hgl : g = last / 65536) (hA : At ys k (grp ch x g q i t).1) (hf : k + (grp ch x g q i t).1.length ≤ fin) :
    ∃ l2, l2 < t ∧ GoesFor (srcS ys) m d (rsp fin opn x last) (rsp fin opn x l2) k (k + (grp ch x g q i t).1.length) 0 [] := by
  rcases grp_next (ch := ch) (x := x) (g := g) (q := q) (i := i) (t := t) with h | ⟨h1, h⟩
  · rw [h]
    exact ⟨last, hl, GoesFor.start _ _ _ _ _⟩
  · have hl12 : (grp ch x g q i t).1.length = 12 := by
      rcases grp_ev ch x g q i t with e | e
      · rw [h] at e
        rw [List.length_append, le_len] at e
        omega
      · exact e
    rw [hl12] at hf ⊢
    rw [h] at hA
    exact ⟨t / 65536 * 65536, by omega, grpF hb ht hl (by rw [← hgl]; exact h1) hA hf⟩

/-- All of it is read. -/
theorem forms (ch : Nat → Bool) (st : List Nd → Bool) (hst : ∀ M, st M = true → M.map imN = M) (ys : List UInt8) : ∀ (f : Nat) (b : Bool) (d : Nat) (t : Int) (c : Nat) (M : List Nd), M.length ≤ f → wt elemOk itemOk f b d t c M → (∀ a ∈ M, 0 ≤ a.t ∧ a.t < 4294967296) → 0 ≤ t → ∀ (x : Bool) (g q i k fin m : Nat) (opn : Bool), (b = false → g = t.toNat / 65536) → At ys k (frm ch st f b x g q i M).1 → k + (frm ch st f b x g q i M).1.length ≤ fin → fin ≤ 1048576 → m + M.length ≤ 4096 →
    (b = false → ∃ t2, GoesFor (srcS ys) m (2 * d) (rsp fin opn x t.toNat) (rsp fin opn x t2) k (k + (frm ch st f b x g q i M).1.length) c (M.map (bkN x))) ∧ (b = true → GoesFor (srcS ys) m (2 * d + 1) (isp fin opn x) (isp fin opn x) k (k + (frm ch st f b x g q i M).1.length) c (M.map (bkN x))) := by
  intro f
  induction f with
  | zero =>
    intro b d t c M hf hw _ _ x g q i k fin m opn hgt hA hk hfin hm
    obtain ⟨rfl, rfl⟩ := hw
    exact ⟨fun _ => ⟨_, GoesFor.start _ _ _ _ _⟩, fun _ => GoesFor.start _ _ _ _ _⟩
  | succ f ih =>
    intro b d t c M hf hw hT ht x g q i k fin m opn hgt hA hk hfin hm
    cases M with
    | nil =>
      obtain rfl : c = 0 := hw
      have e : (frm ch st (f + 1) b x g q i []).1 = [] := by cases b <;> rfl
      rw [e]
      exact ⟨fun _ => ⟨_, GoesFor.start _ _ _ _ _⟩, fun _ => GoesFor.start _ _ _ _ _⟩
    | cons a r =>
      obtain ⟨hc, h1, h2, h3⟩ := hw
      have hTa := hT a List.mem_cons_self
      have hTi : ∀ y ∈ r.take (goN r a.n.toNat), 0 ≤ y.t ∧ y.t < 4294967296 := fun y hy => hT y (List.mem_cons_of_mem _ (List.mem_of_mem_take hy))
      have hTr : ∀ y ∈ r.drop (goN r a.n.toNat), 0 ≤ y.t ∧ y.t < 4294967296 := fun y hy => hT y (List.mem_cons_of_mem _ (List.mem_of_mem_drop hy))
      have hrf : r.length ≤ f := by simp at hf; omega
      have hlen : (r.take (goN r a.n.toNat)).length + (r.drop (goN r a.n.toNat)).length = r.length := by rw [← List.length_append, List.take_append_drop]
      have hm' : m + (r.length + 1) ≤ 4096 := hm
      have hw2 := wt_wf f _ _ _ _ _ h2
      cases b with
      | false =>
        refine ⟨fun _ => ?_, fun e => (by cases e)⟩
        have hgt := hgt rfl
        have h1 : elemOk a = true ∧ t < a.t := h1
        have h2 : wt elemOk itemOk f true d 0 a.n.toNat (r.take (goN r a.n.toNat)) := h2
        have hw2 : wf elemOk itemOk f true (r.take (goN r a.n.toNat)) := hw2
        obtain ⟨m1, m2⟩ := elem_may h1.1
        obtain ⟨b1, b2, b3, b4⟩ := may_tag m1
        obtain ⟨hv1, hv2, hsz⟩ := elem_vr h1.1
        rw [frm] at hA hk ⊢
        by_cases h18 : a.v ≠ 18
        · rw [if_pos h18] at hA hk ⊢
          simp only at hA hk ⊢
          obtain ⟨G, hG⟩ : ∃ G, grp ch x g q i a.t.toNat = G := ⟨_, rfl⟩
          have hGgo : ∀ (fin m : Nat), At ys k G.1 → k + G.1.length ≤ fin → ∃ l2, l2 < a.t.toNat ∧ GoesFor (srcS ys) m (2 * d) (rsp fin opn x t.toNat) (rsp fin opn x l2) k (k + G.1.length) 0 [] := fun fin m => by
            rw [← hG]
            exact grp_go b1 (by omega) (by omega) b2 hgt
          rw [hG] at hA hk ⊢
          obtain ⟨V, hV⟩ : ∃ V, vrP ch x (fnd a).isSome a.v G.2 = V := ⟨_, rfl⟩
          obtain ⟨hV1, hV2⟩ := vrP_ok ch x (fnd a).isSome a.v G.2 ⟨hv1, hv2⟩
          rw [hV] at hA hk hV1 hV2 ⊢
          obtain ⟨R, hR⟩ : ∃ R, frm ch st f false x (a.t.toNat / 65536) V.2 (i + 1 + goN r a.n.toNat) (r.drop (goN r a.n.toNat)) = R := ⟨_, rfl⟩
          obtain ⟨hn0, -⟩ := (fitX x).el a h1.1 h18
          have hgn : goN r a.n.toNat = 0 := by rw [hn0]; exact Wk.goN_zero r
          rw [hR] at hA hk ⊢
          have hhl : (hdX x a.t.toNat V.1 (pvL a.v a.s).length).length = hzX x V.1 := hdX_len hV1 _ _
          simp only [List.length_append, hhl] at hk
          obtain ⟨l2, hl2, g0⟩ := hGgo fin m hA.left.left (by omega)
          have hAh := hA.left.right.left
          have hAp := hA.left.right.right' hhl
          have hz := hzX_ev x V.1
          have hpl : (pvL a.v a.s).length = a.s.size + a.s.size % 2 := pvL_len _ _
          have hhd : HdAt ys x (k + G.1.length) fin a (hzX x V.1) (pvL a.v a.s).length false ∨ HdAt ys x (k + G.1.length) fin a (hzX x V.1) (pvL a.v a.s).length true := by
            cases x with
            | false => exact .inl (hdI_at h1.1 hTa.1 hTa.2 hAh (by omega) (fun _ => by unfold und; omega) (fun e => absurd e h18))
            | true =>
              rcases hV2 with e | ⟨e, -, hkn⟩
              · rw [e] at hAh hk ⊢
                exact .inr (hdE_at h1.1 hTa.1 hTa.2 hAh (by omega) (fun _ => by unfold und; omega) (fun _ => by omega) (by omega))
              · have e12 : hzX true V.1 = 12 := by rw [e]; unfold hzX; rw [show Rp.vn 25 = 25 by rw [vn_of (by decide)]; rfl, lo_un]; rfl
                rw [e12] at hk ⊢
                rw [e] at hAh
                exact .inl (hdU_at h1.1 hTa.1 hTa.2 hAh (by omega) (.inl hkn) (by omega))
          have g1 := plainF (x := x) (opn := opn) (m := m) (d := 2 * d) (last := l2) h1.1 h18 hTa.1 hl2 hz.2.1 hhd hAp (by omega) (by omega)
          have hAr := hA.right' (n := G.1.length + (hzX x V.1 + (pvL a.v a.s).length)) (by simp only [List.length_append, hhl])
          rw [hgn] at h3 hR hTr hlen
          rw [List.drop_zero] at h3 hR hTr hlen
          obtain ⟨t2, g2⟩ := (ih false d a.t (c - 1) r (by omega) h3 hTr hTa.1 x (a.t.toNat / 65536) V.2 (i + 1 + 0) (k + G.1.length + hzX x V.1 + (pvL a.v a.s).length) fin (m + ([] ++ [bkN x a]).length) opn (fun _ => rfl) (by
            rw [hR, show k + G.1.length + hzX x V.1 + (pvL a.v a.s).length = k + (G.1.length + (hzX x V.1 + (pvL a.v a.s).length)) by omega]
            exact hAr) (by rw [hR]; omega) hfin (by simp only [List.nil_append, List.length_cons, List.length_nil]; omega)).1 rfl
          have g3 := (g0.trans g1).trans g2
          refine ⟨t2, ?_⟩
          rw [hR, List.nil_append, List.cons_append, List.nil_append, show 0 + 1 + (c - 1) = c by omega] at g3
          simp only [List.length_append, hhl]
          rw [show k + (G.1.length + (hzX x V.1 + (pvL a.v a.s).length) + R.1.length) = k + G.1.length + hzX x V.1 + (pvL a.v a.s).length + R.1.length by omega]
          exact g3
        · rw [if_neg h18] at hA hk ⊢
          simp only at hA hk ⊢
          have h18 : a.v = 18 := by omega
          obtain ⟨G, hG⟩ : ∃ G, grp ch x g q i a.t.toNat = G := ⟨_, rfl⟩
          have hGgo : ∀ (fin m : Nat), At ys k G.1 → k + G.1.length ≤ fin → ∃ l2, l2 < a.t.toNat ∧ GoesFor (srcS ys) m (2 * d) (rsp fin opn x t.toNat) (rsp fin opn x l2) k (k + G.1.length) 0 [] := fun fin m => by
            rw [← hG]
            exact grp_go b1 (by omega) (by omega) b2 hgt
          rw [hG] at hA hk ⊢
          obtain ⟨o, ho⟩ : ∃ o, (ch G.2 || (!x && !(fnd a).isSome)) = o := ⟨_, rfl⟩
          rw [ho] at hA hk ⊢
          obtain ⟨V, hV⟩ : ∃ V, vrS ch (st (a :: r.take (goN r a.n.toNat))) x (fnd a).isSome o (G.2 + 1) = V := ⟨_, rfl⟩
          obtain ⟨hV1, hV2⟩ := vrS_ok ch (st (a :: r.take (goN r a.n.toNat))) x (fnd a).isSome o (G.2 + 1)
          rw [hV] at hA hk hV1 hV2 ⊢
          obtain ⟨xi, hxi⟩ : ∃ xi, (x && decide (V.1 = 18)) = xi := ⟨_, rfl⟩
          rw [hxi] at hA hk ⊢
          obtain ⟨I, hI⟩ : ∃ I, frm ch st f true xi 0 V.2 (i + 1) (r.take (goN r a.n.toNat)) = I := ⟨_, rfl⟩
          have hIe : I.1.length % 2 = 0 := by rw [← hI]; exact frm_ev ch st f true xi 0 V.2 (i + 1) _ hw2
          rw [hI] at hA hk ⊢
          obtain ⟨R, hR⟩ : ∃ R, frm ch st f false x (a.t.toNat / 65536) I.2 (i + 1 + goN r a.n.toNat) (r.drop (goN r a.n.toNat)) = R := ⟨_, rfl⟩
          rw [hR] at hA hk ⊢
          have hhl : ∀ n, (hdX x a.t.toNat V.1 n).length = hzX x V.1 := fun n => hdX_len hV1 _ _
          have hml : (if o = true then plL 4294893789 0 else []).length = if o = true then 8 else 0 := by split; exact plL_len _ _; rfl
          simp only [List.length_append, hhl, hml] at hk
          obtain ⟨l2, hl2, g0⟩ := hGgo fin m hA.left.left (by omega)
          have hAh := hA.left.right.left
          have hAi := (hA.left.right.right' (hhl _)).left
          have hAm := (hA.left.right.right' (hhl _)).right
          have hz := hzX_ev x V.1
          have hxs : (xi = x ∧ V.1 = 18) ∨ (V.1 = 25 ∧ x = true ∧ xi = false ∧ (r.take (goN r a.n.toNat)).map imN = r.take (goN r a.n.toNat) ∧ ((fnd a).isSome = true ∨ o = true)) := by
            rcases hV2 with e | ⟨e, ex, es, eo⟩
            · left
              refine ⟨?_, e⟩
              rw [← hxi, e]
              cases x <;> rfl
            · right
              refine ⟨e, ex, ?_, ?_, eo⟩
              · rw [← hxi, e, ex]; decide
              · have := hst _ es
                rw [List.map_cons] at this
                exact (List.cons.inj this).2
          have hhd : HdAt ys x (k + G.1.length) fin a (hzX x V.1) (if o = true then 4294967295 else I.1.length) xi := by
            rcases hxs with ⟨e, e18⟩ | ⟨e, ex, exi, -, eo⟩
            · subst e
              rw [e18] at hAh hk ⊢
              rw [← h18] at hAh hk ⊢
              cases xi with
              | false =>
                refine hdI_at h1.1 hTa.1 hTa.2 hAh (by split <;> omega) (fun e => absurd h18 e) (fun _ => ?_)
                by_cases hkn : (fnd a).isSome = true
                · exact .inl hkn
                · right
                  have : o = true := by rw [← ho]; simp [hkn]
                  rw [this]; rfl
              | true =>
                exact hdE_at h1.1 hTa.1 hTa.2 hAh (by split <;> omega) (fun e => absurd h18 e) (fun e => by
                  rw [h18] at e
                  have hq : Rp.lo (Rp.vn 18) = true := by decide +kernel
                  rw [hq] at e
                  cases e) (by omega)
            · have e12 : hzX x V.1 = 12 := by rw [e, ex]; unfold hzX; rw [show Rp.vn 25 = 25 by rw [vn_of (by decide)]; rfl, lo_un]; rfl
              rw [e12] at hk ⊢
              rw [e] at hAh
              rw [exi]
              subst ex
              refine hdU_at h1.1 hTa.1 hTa.2 hAh (by split <;> omega) ?_ (by omega)
              rcases eo with eo | eo
              · exact .inl eo
              · right
                rw [eo]
                exact ⟨h18, rfl⟩
          have hmap : (r.take (goN r a.n.toNat)).map (bkN xi) = (r.take (goN r a.n.toNat)).map (bkN x) := by
            rcases hxs with ⟨e, -⟩ | ⟨-, ex, exi, es, -⟩
            · rw [e]
            · rw [ex, exi]
              have e1 : (r.take (goN r a.n.toNat)).map (bkN false) = (r.take (goN r a.n.toNat)).map imN := rfl
              have e2 : (r.take (goN r a.n.toNat)).map (bkN true) = r.take (goN r a.n.toNat) := List.map_id _
              rw [e1, e2, es]
          have g1 := seqF (x := x) (opn := opn) (o := o) (xi := xi) (m := m) (d := d) (last := l2) (z := I.1.length) (X := (r.take (goN r a.n.toNat)).map (bkN xi)) h1.1 h18 hTa.1 hl2 hIe hz.2.1 hhd (fun e => by
              have hq := hAm
              rw [if_pos e] at hq
              exact hq) (by omega) hfin (by omega) (fun fin2 q1 q2 => by
              have := (ih true d 0 _ _ (by omega) h2 hTi (Int.le_refl 0) xi 0 V.2 (i + 1) (k + G.1.length + hzX x V.1) fin2 (m + 1) o (fun e => (by cases e)) (by rw [hI]; exact hAi) (by rw [hI]; exact q1) q2 (by omega)).2 rfl
              rw [hI] at this
              exact this)
          have hAr := hA.right' (n := G.1.length + (hzX x V.1 + (I.1.length + (if o = true then 8 else 0)))) (by simp only [List.length_append, hhl, hml])
          obtain ⟨t2, g2⟩ := (ih false d a.t (c - 1) _ (by omega) h3 hTr hTa.1 x (a.t.toNat / 65536) I.2 (i + 1 + goN r a.n.toNat) (k + G.1.length + hzX x V.1 + I.1.length + (if o = true then 8 else 0)) fin (m + ([] ++ (bkN x a :: (r.take (goN r a.n.toNat)).map (bkN xi))).length) opn (fun _ => rfl) (by
            rw [hR]
            rw [show k + G.1.length + hzX x V.1 + I.1.length + (if o = true then 8 else 0) = k + (G.1.length + (hzX x V.1 + (I.1.length + (if o = true then 8 else 0)))) by omega]
            exact hAr) (by rw [hR]; omega) hfin (by simp only [List.nil_append, List.length_cons, List.length_map]; omega)).1 rfl
          have g3 := (g0.trans g1).trans g2
          refine ⟨t2, ?_⟩
          rw [hR, List.nil_append, hmap, List.cons_append, map_cut, show 0 + 1 + (c - 1) = c by omega] at g3
          simp only [List.length_append, hhl, hml]
          rw [show k + (G.1.length + (hzX x V.1 + (I.1.length + (if o = true then 8 else 0))) + R.1.length) = k + G.1.length + hzX x V.1 + I.1.length + (if o = true then 8 else 0) + R.1.length by omega]
          exact g3
      | true =>
        refine ⟨fun e => (by cases e), fun _ => ?_⟩
        have h1 : itemOk a = true ∧ d + 1 ≤ 4 := h1
        have h2 : wt elemOk itemOk f false (d + 1) 0 a.n.toNat (r.take (goN r a.n.toNat)) := h2
        have hw2 : wf elemOk itemOk f false (r.take (goN r a.n.toNat)) := hw2
        rw [frm] at hA hk ⊢
        simp only at hA hk ⊢
        obtain ⟨I, hI⟩ : ∃ I, frm ch st f false x 0 q (i + 1) (r.take (goN r a.n.toNat)) = I := ⟨_, rfl⟩
        have hIe : I.1.length % 2 = 0 := by rw [← hI]; exact frm_ev ch st f false x 0 q (i + 1) _ hw2
        rw [hI] at hA hk ⊢
        obtain ⟨o, ho⟩ : ∃ o, ch I.2 = o := ⟨_, rfl⟩
        rw [ho] at hA hk ⊢
        obtain ⟨R, hR⟩ : ∃ R, frm ch st f true x 0 (I.2 + 1) (i + 1 + goN r a.n.toNat) (r.drop (goN r a.n.toNat)) = R := ⟨_, rfl⟩
        rw [hR] at hA hk ⊢
        have hml : (if o = true then plL 4294893581 0 else []).length = if o = true then 8 else 0 := by split; exact plL_len _ _; rfl
        simp only [List.length_append, plL_len, hml] at hk
        have hAi := (hA.left.right' (plL_len _ _)).left
        have hAm := (hA.left.right' (plL_len _ _)).right
        have g1 := itemF (x := x) (opn := opn) (o := o) (ys := ys) (a := a) (k := k) (fin := fin) (m := m) (d := d) (z := I.1.length) (X := (r.take (goN r a.n.toNat)).map (bkN x)) h1.1 h1.2 hIe hA.left.left (fun e => by
            have hq := hAm
            rw [if_pos e] at hq
            exact hq) (by omega) hfin (by omega) (fun fin2 q1 q2 => by
            have := (ih false (d + 1) 0 _ _ (by omega) h2 hTi (Int.le_refl 0) x 0 q (i + 1) (k + 8) fin2 (m + 1) o (fun _ => rfl) (by rw [hI]; exact hAi) (by rw [hI]; exact q1) q2 (by omega)).1 rfl
            rw [hI] at this
            exact this)
        have hAr := hA.right' (n := 8 + (I.1.length + (if o = true then 8 else 0))) (by simp only [List.length_append, plL_len, hml])
        have g2 := (ih true d a.t (c - 1) _ (by omega) h3 hTr hTa.1 x 0 (I.2 + 1) (i + 1 + goN r a.n.toNat) (k + 8 + I.1.length + (if o = true then 8 else 0)) fin (m + (bkN x a :: (r.take (goN r a.n.toNat)).map (bkN x)).length) opn (fun e => (by cases e)) (by
          rw [hR]
          rw [show k + 8 + I.1.length + (if o = true then 8 else 0) = k + (8 + (I.1.length + (if o = true then 8 else 0))) by omega]
          exact hAr) (by rw [hR]; omega) hfin (by simp only [List.length_cons, List.length_map]; omega)).2 rfl
        have g3 := g1.trans g2
        rw [hR, List.cons_append, map_cut, show 1 + (c - 1) = c by omega] at g3
        simp only [List.length_append, plL_len, hml]
        rw [show k + (8 + (I.1.length + (if o = true then 8 else 0)) + R.1.length) = k + 8 + I.1.length + (if o = true then 8 else 0) + R.1.length by omega]
        exact g3
end Go.Proofs.YtfoodjhffehgpaaGreatDoor
end
