import Derived.Test.YtfoodjhffehgpaaGreatDoorLa
/-
  DERIVED. Reading a data set, said as a machine with a stack: plain functions.
-/
namespace Go.Proofs.YtfoodjhffehgpaaGreatDoor
open Go Go.Proofs Go.RowKit
open Wk (Nd)

/-- What a head tells: the VR, its own bytes, the length, whether what is inside is explicit. -/
structure Hd where
  v : Int
  sz : Nat
  len : Nat
  ex : Bool
/-- Bytes, as a reader asks them. -/
structure Src where
  tag : Nat → Nat
  num : Nat → Nat
  hd : Bool → Nat → Nat → Nat ⊕ Hd
  val : Int → Nat → Nat → ByteArray
/-- What is being read. -/
structure Sp where
  node : Option Nat
  fin : Nat
  opn : Bool
  it : Bool
  ex : Bool
  last : Nat
inductive Res where
  | bad (at_ code : Nat)
  | go (at_ : Nat) (M : List Nd) (st : List Sp)
inductive Fin where
  | bad (at_ code : Nat)
  | ok (M : List Nd)

/-- A node counts so many more. -/
def bump (M : List Nd) (p : Option Nat) (k : Nat) : List Nd :=
  match p with
  | none => M
  | some i => M.modify i fun a => { a with n := a.n + (k : Int) }
def und : Nat := 4294967295
def isBar (t : Nat) : Bool := decide (t / 65536 = 0) || (decide (t / 65536 = 2) || (decide (t / 65536 = 65534) || decide (t / 65536 = 65535)))
def mark (it : Bool) : Nat := if it = true then 4294893789 else 4294893581
def badLen (h : Hd) : Bool := (decide (h.len = und) && !decide (h.v = 18)) || (!decide (h.len = und) && decide (h.len % 2 = 1))

/-- A head of an item. -/
def stepI (S : Src) (k : Nat) (M : List Nd) (sp : Sp) (rest : List Sp) : Res :=
  if S.tag k ≠ 4294893568 then .bad k 123
  else if S.num (k + 4) ≠ und ∧ S.num (k + 4) % 2 = 1 then .bad k 125
  else if 4 < (rest.length + 1) / 2 then .bad k 126
  else if S.num (k + 4) ≠ und ∧ sp.fin - k - 8 < S.num (k + 4) then .bad k 122
  else if M.length = 4096 then .bad k 127
  else .go (k + 8) (bump M sp.node 1 ++ [⟨4294893568, 29, 0, ByteArray.empty⟩])
    (⟨some M.length, if S.num (k + 4) = und then sp.fin else k + 8 + S.num (k + 4), decide (S.num (k + 4) = und), false, sp.ex, 0⟩ :: sp :: rest)

/-- What is behind a head. -/
def stepB (S : Src) (k : Nat) (M : List Nd) (sp : Sp) (rest : List Sp) (h : Hd) : Res :=
  if badLen h = true then .bad k 125
  else if h.v ≠ 18 ∧ 65534 < h.len then .bad k 121
  else if h.len ≠ und ∧ sp.fin - k - h.sz < h.len then .bad k 122
  else if S.tag k % 65536 = 0 then .go (k + h.sz + h.len) M ({ sp with last := S.tag k } :: rest)
  else if M.length = 4096 then .bad k 127
  else if h.v = 18 then .go (k + h.sz) (bump M sp.node 1 ++ [⟨S.tag k, 18, 0, ByteArray.empty⟩])
    (⟨some M.length, if h.len = und then sp.fin else k + h.sz + h.len, decide (h.len = und), true, h.ex, 0⟩ :: { sp with last := S.tag k } :: rest)
  else .go (k + h.sz + h.len) (bump M sp.node 1 ++ [⟨S.tag k, h.v, 0, S.val h.v (k + h.sz) h.len⟩]) ({ sp with last := S.tag k } :: rest)

/-- A head of an element. -/
def stepE (S : Src) (k : Nat) (M : List Nd) (sp : Sp) (rest : List Sp) : Res :=
  if isBar (S.tag k) = true ∨ S.tag k ≤ sp.last then .bad k 123
  else match S.hd sp.ex k sp.fin with
    | .inl c => .bad k c
    | .inr h => stepB S k M sp rest h

/-- A step. -/
def step (S : Src) (k : Nat) (M : List Nd) (sp : Sp) (rest : List Sp) : Res :=
  if sp.opn = false ∧ k = sp.fin then .go k M rest
  else if sp.fin - k < 8 then .bad k 122
  else if sp.opn = true ∧ S.tag k = mark sp.it then (if S.num (k + 4) ≠ 0 then .bad k 125 else .go (k + 8) M rest)
  else if sp.it = true then stepI S k M sp rest
  else stepE S k M sp rest

/-- How the reading ends. -/
inductive Ends (S : Src) : Nat → List Nd → List Sp → Fin → Prop where
  | done (k M) : Ends S k M [] (.ok M)
  | bad {k M sp rest a c} : step S k M sp rest = .bad a c → Ends S k M (sp :: rest) (.bad a c)
  | go {k M sp rest k' M' st' R} : step S k M sp rest = .go k' M' st' → Ends S k' M' st' R → Ends S k M (sp :: rest) R

theorem Ends.one {S : Src} {k : Nat} {M : List Nd} {st : List Sp} {R R' : Fin} (h : Ends S k M st R) (h' : Ends S k M st R') : R = R' := by
  induction h with
  | done k M => cases h'; rfl
  | bad h => cases h' with
    | bad h2 => rw [h] at h2; cases h2; rfl
    | go h2 _ => rw [h] at h2; cases h2
  | go h _ ih => cases h' with
    | bad h2 => rw [h] at h2; cases h2
    | go h2 h3 => rw [h] at h2; cases h2; exact ih h3

theorem bump_len (M : List Nd) (p : Option Nat) (k : Nat) : (bump M p k).length = M.length := by
  unfold bump
  cases p with
  | none => rfl
  | some i => simp
theorem bump_zero (M : List Nd) (p : Option Nat) : bump M p 0 = M := by
  unfold bump
  cases p with
  | none => rfl
  | some i =>
    refine List.ext_getElem? fun j => ?_
    show (M.modify i fun a => { a with n := a.n + ((0 : Nat) : Int) })[j]? = M[j]?
    rw [List.getElem?_modify]
    cases M[j]? with
    | none => rfl
    | some a => show some (if i = j then _ else a) = some a; split <;> simp
theorem bump_add (M : List Nd) (p : Option Nat) (k l : Nat) : bump (bump M p k) p l = bump M p (k + l) := by
  unfold bump
  cases p with
  | none => rfl
  | some i =>
    refine List.ext_getElem? fun j => ?_
    show ((M.modify i _).modify i _)[j]? = (M.modify i _)[j]?
    rw [List.getElem?_modify, List.getElem?_modify, List.getElem?_modify]
    cases M[j]? with
    | none => rfl
    | some a =>
      by_cases h : i = j
      · simp [h]; omega
      · simp [h]
theorem bump_app {M : List Nd} {p : Option Nat} (hp : ∀ i, p = some i → i < M.length) (X : List Nd) (k : Nat) : bump (M ++ X) p k = bump M p k ++ X := by
  unfold bump
  cases p with
  | none => rfl
  | some i =>
    have hi := hp i rfl
    refine List.ext_getElem? fun j => ?_
    show ((M ++ X).modify i _)[j]? = (M.modify i _ ++ X)[j]?
    rw [List.getElem?_modify]
    by_cases hj : j < M.length
    · rw [List.getElem?_append_left hj, List.getElem?_append_left (by simpa using hj), List.getElem?_modify]
    · rw [List.getElem?_append_right (by omega), List.getElem?_append_right (by simp; omega), List.length_modify]
      cases X[j - M.length]? with
      | none => rfl
      | some a => show some (if i = j then _ else a) = some a; rw [if_neg (by omega)]
theorem bump_last (M : List Nd) (a : Nd) (k : Nat) : bump (M ++ [a]) (some M.length) k = M ++ [{ a with n := a.n + (k : Int) }] := by
  unfold bump
  show (M ++ [a]).modify M.length _ = _
  refine List.ext_getElem? fun j => ?_
  rw [List.getElem?_modify]
  by_cases hj : j < M.length
  · rw [List.getElem?_append_left hj, List.getElem?_append_left hj]
    cases M[j]? with
    | none => rfl
    | some b => show some (if M.length = j then _ else b) = some b; rw [if_neg (by omega)]
  · by_cases hj2 : j = M.length
    · subst hj2; simp
    · rw [List.getElem?_eq_none (by simp; omega), List.getElem?_eq_none (by simp; omega)]
      rfl

/-- What may be relied on: heads lie within, an element 0000 is no sequence, a VR is one of the table's. -/
structure Src.Ok (S : Src) : Prop where
  hd : ∀ x k e h, 8 ≤ e - k → isBar (S.tag k) = false → S.hd x k e = .inr h → 8 ≤ h.sz ∧ k + h.sz ≤ e ∧ (S.tag k % 65536 = 0 → h.v ≠ 18) ∧ 1 ≤ h.v ∧ h.v ≤ 28
  tag : ∀ k, S.tag k < 4294967296
  val : ∀ v k n, (S.val v k n).size ≤ n

/-- The spans lie within each other, from a place on. -/
def Nest : Nat → List Sp → Prop
  | _, [] => True
  | k, sp :: r => k ≤ sp.fin ∧ Nest sp.fin r
theorem Nest.mono : ∀ {st : List Sp} {k l : Nat}, Nest l st → k ≤ l → Nest k st
  | [], _, _, _, _ => trivial
  | _ :: _, _, _, h, hk => ⟨Nat.le_trans hk h.1, h.2⟩

/-- Nodes as a reader makes them. -/
structure NOk (m : Nat) (a : Nd) : Prop where
  t0 : 0 ≤ a.t
  t1 : a.t < 4294967296
  v0 : 1 ≤ a.v
  v1 : a.v ≤ 29
  n0 : 0 ≤ a.n
  n1 : a.n ≤ (m : Int)
  s0 : a.s.size ≤ 65534
structure MOk (M : List Nd) : Prop where
  l : M.length ≤ 4096
  a : ∀ x ∈ M, NOk M.length x
theorem MOk.nil : MOk [] := ⟨by simp, fun x hx => nomatch hx⟩
theorem NOk.on {m m' : Nat} {a : Nd} (h : NOk m a) (hm : m ≤ m') : NOk m' a := ⟨h.t0, h.t1, h.v0, h.v1, h.n0, by have := h.n1; omega, h.s0⟩
theorem bump_mem {M : List Nd} {p : Option Nat} {k : Nat} {x : Nd} (h : x ∈ bump M p k) : x ∈ M ∨ ∃ a ∈ M, x = { a with n := a.n + (k : Int) } := by
  unfold bump at h
  cases p with
  | none => exact .inl h
  | some i =>
    obtain ⟨j, hj⟩ := List.mem_iff_getElem?.1 h
    have hj2 : (M.modify i _)[j]? = some x := hj
    rw [List.getElem?_modify] at hj2
    cases hM : M[j]? with
    | none => rw [hM] at hj2; cases hj2
    | some a =>
      rw [hM] at hj2
      have ha : a ∈ M := List.mem_iff_getElem?.2 ⟨j, hM⟩
      have hj3 : some (if i = j then _ else a) = some x := hj2
      by_cases hi : i = j
      · rw [if_pos hi] at hj3
        cases hj3
        exact .inr ⟨a, ha, rfl⟩
      · rw [if_neg hi] at hj3
        cases hj3
        exact .inl ha
theorem MOk.add {M : List Nd} (h : MOk M) (hl : M.length ≠ 4096) (p : Option Nat) {b : Nd} (hb : NOk 0 b) : MOk (bump M p 1 ++ [b]) := by
  have := h.l
  refine ⟨by rw [List.length_append, bump_len]; simp; omega, fun x hx => ?_⟩
  rw [List.length_append, bump_len]
  rcases List.mem_append.1 hx with hx | hx
  · rcases bump_mem hx with hx | ⟨a, ha, rfl⟩
    · exact (h.a x hx).on (by simp)
    · have := h.a a ha
      exact ⟨this.t0, this.t1, this.v0, this.v1, by have := this.n0; show 0 ≤ a.n + ((1 : Nat) : Int); omega, by have := this.n1; show a.n + ((1 : Nat) : Int) ≤ ((M.length + [b].length : Nat) : Int); simp; omega, this.s0⟩
  · obtain rfl := List.mem_singleton.1 hx
    exact hb.on (by omega)

theorem und_big : und = 4294967295 := rfl
/-- A step goes on. -/
theorem step_next {S : Src} (ok : S.Ok) {k : Nat} {M : List Nd} {sp : Sp} {rest : List Sp} {k' : Nat} {M' : List Nd} {st' : List Sp} (hn : Nest k (sp :: rest)) (hM : MOk M) (h : step S k M sp rest = .go k' M' st') :
    Nest k' st' ∧ MOk M' ∧ M.length ≤ M'.length ∧ 2 * k + st'.length < 2 * k' + (rest.length + 1) := by
  obtain ⟨h1, h2⟩ := hn
  unfold step at h
  split at h
  · rename_i hc
    cases h
    exact ⟨h2.mono h1, hM, Nat.le_refl _, by omega⟩
  split at h
  · cases h
  rename_i h8
  split at h
  · split at h
    · cases h
    · cases h
      exact ⟨h2.mono (by omega), hM, Nat.le_refl _, by omega⟩
  split at h
  · unfold stepI at h
    split at h
    · cases h
    split at h
    · cases h
    split at h
    · cases h
    split at h
    · cases h
    rename_i hlen
    split at h
    · cases h
    rename_i hmany
    cases h
    refine ⟨⟨?_, ?_, h2⟩, hM.add hmany _ ⟨by decide, by decide, by decide, by decide, by decide, by decide, by decide⟩, by rw [List.length_append, bump_len]; omega, by simp; omega⟩
    · show k + 8 ≤ if S.num (k + 4) = und then sp.fin else k + 8 + S.num (k + 4)
      split <;> omega
    · show (if S.num (k + 4) = und then sp.fin else k + 8 + S.num (k + 4)) ≤ sp.fin
      split
      · omega
      · rename_i hu
        have : ¬ sp.fin - k - 8 < S.num (k + 4) := fun e => hlen ⟨hu, e⟩
        omega
  · unfold stepE at h
    split at h
    · cases h
    rename_i hbar
    split at h
    · cases h
    rename_i hd he
    obtain ⟨g1, g2, g3, g4, g5⟩ := ok.hd _ _ _ _ (by omega) (by rcases hb : isBar (S.tag k) with _ | _ <;> simp_all) he
    unfold stepB at h
    split at h
    · cases h
    rename_i hbl
    split at h
    · cases h
    rename_i hlong
    split at h
    · cases h
    rename_i hshort
    have hfit : hd.len ≠ und → k + hd.sz + hd.len ≤ sp.fin := fun hu => by
      have : ¬ sp.fin - k - hd.sz < hd.len := fun e => hshort ⟨hu, e⟩
      omega
    have hdef : hd.v ≠ 18 → hd.len ≠ und := fun hv hu => by
      apply hbl
      unfold badLen
      simp [hu, hv]
    split at h
    · rename_i hg
      cases h
      have := hfit (hdef (g3 hg))
      exact ⟨⟨this, h2⟩, hM, Nat.le_refl _, by simp; omega⟩
    split at h
    · cases h
    rename_i hmany
    have ht := ok.tag k
    split at h
    · rename_i hv
      cases h
      refine ⟨⟨?_, ?_, h2⟩, hM.add hmany _ ⟨by show (0 : Int) ≤ (S.tag k : Int); omega, by show (S.tag k : Int) < 4294967296; omega, by show (1 : Int) ≤ 18; decide, by show (18 : Int) ≤ 29; decide, by show (0 : Int) ≤ 0; decide, by show (0 : Int) ≤ 0; decide, by show ByteArray.empty.size ≤ 65534; decide⟩, by rw [List.length_append, bump_len]; omega, by simp; omega⟩
      · show k + hd.sz ≤ if hd.len = und then sp.fin else k + hd.sz + hd.len
        split <;> omega
      · show (if hd.len = und then sp.fin else k + hd.sz + hd.len) ≤ sp.fin
        split
        · omega
        · rename_i hu
          exact hfit hu
    · rename_i hv
      cases h
      have := hfit (hdef hv)
      have hl : hd.len ≤ 65534 := by
        have : ¬ 65534 < hd.len := fun e => hlong ⟨hv, e⟩
        omega
      refine ⟨⟨this, h2⟩, hM.add hmany _ ⟨by show (0 : Int) ≤ (S.tag k : Int); omega, by show (S.tag k : Int) < 4294967296; omega, g4, by show hd.v ≤ 29; omega, by show (0:Int) ≤ 0; omega, by show (0:Int) ≤ _; omega, Nat.le_trans (ok.val _ _ _) hl⟩, by rw [List.length_append, bump_len]; omega, by simp; omega⟩
theorem step_bad {S : Src} {k : Nat} {M : List Nd} {sp : Sp} {rest : List Sp} {a c : Nat} (h : step S k M sp rest = .bad a c) : a = k := by
  unfold step at h
  split at h
  · cases h
  split at h
  · cases h; rfl
  split at h
  · split at h <;> cases h; rfl
  split at h
  · unfold stepI at h
    split at h
    · cases h; rfl
    split at h
    · cases h; rfl
    split at h
    · cases h; rfl
    split at h
    · cases h; rfl
    split at h <;> cases h; rfl
  · unfold stepE at h
    split at h
    · cases h; rfl
    split at h
    · cases h; rfl
    unfold stepB at h
    split at h
    · cases h; rfl
    split at h
    · cases h; rfl
    split at h
    · cases h; rfl
    split at h
    · cases h
    split at h
    · cases h; rfl
    split at h <;> cases h
theorem Ends.fine {S : Src} (ok : S.Ok) {k : Nat} {M : List Nd} {st : List Sp} {R : Fin} (h : Ends S k M st R) : Nest k st → MOk M → ∀ M', R = .ok M' → MOk M' := by
  induction h with
  | done k M => intro _ hM M' e; cases e; exact hM
  | bad _ => intro _ _ M' e; cases e
  | go h _ ih =>
    intro hn hM M' e
    obtain ⟨a, b, _, _⟩ := step_next ok hn hM h
    exact ih a b M' e
/-- What holds of a state while bytes are read. -/
structure PI (n k : Nat) (M : List Nd) (st : List Sp) : Prop where
  ns : Nest k st
  fn : ∀ x ∈ st, x.fin ≤ n
  ln : st.length ≤ 2 * k + 1
  mo : MOk M
  nd : ∀ x ∈ st, ∀ p, x.node = some p → p < M.length
  la : ∀ x ∈ st, x.last < 4294967296
theorem step_shape {S : Src} (ok : S.Ok) {n k : Nat} {M : List Nd} {sp : Sp} {rest : List Sp} {k' : Nat} {M' : List Nd} {st' : List Sp} (hf : ∀ x ∈ sp :: rest, x.fin ≤ n) (hl : ∀ x ∈ sp :: rest, x.last < 4294967296) (hp : ∀ x ∈ sp :: rest, ∀ p, x.node = some p → p < M.length) (h : step S k M sp rest = .go k' M' st') (hn : Nest k' st') :
    ∀ x ∈ st', x.fin ≤ n ∧ x.last < 4294967296 ∧ ∀ p, x.node = some p → p < M'.length := by
  have hr : ∀ m, M.length ≤ m → ∀ x ∈ rest, x.fin ≤ n ∧ x.last < 4294967296 ∧ ∀ p, x.node = some p → p < m := fun m hm x hx => ⟨hf x (List.mem_cons_of_mem _ hx), hl x (List.mem_cons_of_mem _ hx), fun p e => Nat.lt_of_lt_of_le (hp x (List.mem_cons_of_mem _ hx) p e) hm⟩
  have h0 : ∀ m, M.length ≤ m → sp.fin ≤ n ∧ sp.last < 4294967296 ∧ ∀ p, sp.node = some p → p < m := fun m hm => ⟨hf sp List.mem_cons_self, hl sp List.mem_cons_self, fun p e => Nat.lt_of_lt_of_le (hp sp List.mem_cons_self p e) hm⟩
  have hb : ∀ b : Nd, (bump M sp.node 1 ++ [b]).length = M.length + 1 := fun b => by rw [List.length_append, bump_len]; rfl
  have ht := ok.tag k
  unfold step at h
  split at h
  · cases h; exact hr _ (Nat.le_refl _)
  split at h
  · cases h
  split at h
  · split at h
    · cases h
    · cases h; exact hr _ (Nat.le_refl _)
  split at h
  · unfold stepI at h
    split at h
    · cases h
    split at h
    · cases h
    split at h
    · cases h
    split at h
    · cases h
    split at h
    · cases h
    cases h
    intro x hx
    rw [hb]
    rcases List.mem_cons.1 hx with rfl | hx
    · exact ⟨Nat.le_trans hn.2.1 (h0 _ (Nat.le_refl _)).1, by show (0 : Nat) < _; decide, fun p e => by cases e; omega⟩
    rcases List.mem_cons.1 hx with rfl | hx
    · exact h0 _ (by omega)
    · exact hr _ (by omega) x hx
  · unfold stepE at h
    split at h
    · cases h
    split at h
    · cases h
    unfold stepB at h
    split at h
    · cases h
    split at h
    · cases h
    split at h
    · cases h
    split at h
    · cases h
      intro x hx
      rcases List.mem_cons.1 hx with rfl | hx
      · exact ⟨(h0 _ (Nat.le_refl _)).1, ht, (h0 _ (Nat.le_refl _)).2.2⟩
      · exact hr _ (Nat.le_refl _) x hx
    split at h
    · cases h
    split at h
    · cases h
      intro x hx
      rw [hb]
      rcases List.mem_cons.1 hx with rfl | hx
      · exact ⟨Nat.le_trans hn.2.1 (h0 _ (Nat.le_refl _)).1, by show (0 : Nat) < _; decide, fun p e => by cases e; omega⟩
      rcases List.mem_cons.1 hx with rfl | hx
      · exact ⟨(h0 _ (Nat.le_refl _)).1, ht, (h0 (M.length + 1) (by omega)).2.2⟩
      · exact hr _ (by omega) x hx
    · cases h
      intro x hx
      rw [hb]
      rcases List.mem_cons.1 hx with rfl | hx
      · exact ⟨(h0 _ (Nat.le_refl _)).1, ht, (h0 (M.length + 1) (by omega)).2.2⟩
      · exact hr _ (by omega) x hx
theorem PI.next {S : Src} (ok : S.Ok) {n k : Nat} {M : List Nd} {sp : Sp} {rest : List Sp} {k' : Nat} {M' : List Nd} {st' : List Sp} (h : PI n k M (sp :: rest)) (hs : step S k M sp rest = .go k' M' st') : PI n k' M' st' ∧ 2 * k + st'.length < 2 * k' + (rest.length + 1) := by
  obtain ⟨a, b, c, d⟩ := step_next ok h.ns h.mo hs
  have e := step_shape ok h.fn h.la h.nd hs a
  have := h.ln
  simp only [List.length_cons] at this
  exact ⟨⟨a, fun x hx => (e x hx).1, by omega, b, fun x hx => (e x hx).2.2, fun x hx => (e x hx).2.1⟩, d⟩
theorem PI.le {n k : Nat} {M : List Nd} {sp : Sp} {rest : List Sp} (h : PI n k M (sp :: rest)) : k ≤ sp.fin ∧ sp.fin ≤ n := ⟨h.ns.1, h.fn sp List.mem_cons_self⟩
end Go.Proofs.YtfoodjhffehgpaaGreatDoor
