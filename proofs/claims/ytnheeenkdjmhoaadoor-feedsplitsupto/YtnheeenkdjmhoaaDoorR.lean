import Derived.Test.YtnheeenkdjmhoaaDoorQ
import Derived.Laws.Runes
/-
  DERIVED. strings.Cut at one byte.
-/
namespace Go.Proofs.YtnheeenkdjmhoaaDoor
open Go Go.Proofs Go.RowKit

/-- Where a byte stands first. -/
theorem indexByte_split : ∀ (l : List UInt8) (c : UInt8), (¬ c ∈ l ∧ Lib.indexByte l c = -1) ∨ ∃ a r, l = a ++ c :: r ∧ ¬ c ∈ a ∧ Lib.indexByte l c = (a.length : Nat)
  | [], c => .inl ⟨by simp, rfl⟩
  | b :: l, c => by
    by_cases hb : b = c
    · subst hb; exact .inr ⟨[], l, rfl, by simp, by simp [Lib.indexByte]⟩
    · have h1 : (b == c) = false := by simpa using hb
      rcases indexByte_split l c with ⟨hn, hi⟩ | ⟨a, r, rfl, ha, hi⟩
      · refine .inl ⟨by simp [hn, Ne.symm hb], ?_⟩
        simp [Lib.indexByte, h1, hi]
      · refine .inr ⟨b :: a, r, rfl, by simp [ha, Ne.symm hb], ?_⟩
        have h2 : ((a.length : Int) == -1) = false := by simp
        unfold Lib.indexByte
        rw [h1, hi, h2]
        simp

set_option maxRecDepth 100000 in
set_option maxHeartbeats 2000000 in
theorem idx65 (w : World) (s S : ByteArray) (m : UInt8) (hS : tl S = [m]) : Calls Tryd.prog 65 #[.string s, .string S] w fun e w' => e = .returned (.int .i64 (Lib.indexByte (tl s) m)) ∧ w = w' := by
  have h := idx47_any w s (m.toNat : Nat)
  have e : ((m.toNat : Int)).toNat.toUInt8 = m := by simp
  rw [e] at h
  have e0 : S.toList = [m] := by rw [ByteArray.toList_eq]; exact hS
  have ez : S.size = 1 := by rw [← tl_len, hS]; rfl
  have eg : (S[0]'(by omega)).toNat = m.toNat := by rw [← tl_getD S 0 (by omega), hS]; rfl
  obtain ⟨y, hy⟩ : ∃ y, m.toNat = y := ⟨_, rfl⟩
  rw [hy] at h eg
  have hr : Lib.indexByte s.data.toList m = Lib.indexByte (tl s) m := rfl
  rw [hr] at h
  by_cases hq : S.toList = s.toList
  · have hq' : (S.toList == s.toList) = true := by simpa using hq
    have hi : Lib.indexByte (tl s) m = 0 := by
      have : tl s = [m] := by
        rw [e0, ByteArray.toList_eq] at hq
        exact hq.symm
      rw [this]; simp [Lib.indexByte]
    rw [hi]
    clear h hi hS e0 e hr hy
    go_enter Tryd.func65, Tryd.ntmps65
    go_wp2
    go_ret
    exact ⟨rfl, rfl⟩
  · have hq' : (S.toList == s.toList) = false := by simpa using hq
    obtain ⟨I, hI⟩ : ∃ I, Lib.indexByte (tl s) m = I := ⟨_, rfl⟩
    rw [hI] at h ⊢
    clear e0 hS e hr hy hI
    go_enter Tryd.func65, Tryd.ntmps65
    go_wp2_with (go_at_call 62; refine h.mono ?_; rintro e w' ⟨rfl, rfl⟩)
    go_ret
    exact ⟨rfl, rfl⟩

/-- What Cut tells at one byte. -/
def CutR (l : List UInt8) (m : UInt8) (a b : ByteArray) (ok : Bool) : Prop :=
  (ok = false ∧ ¬ m ∈ l ∧ tl a = l ∧ tl b = []) ∨ (ok = true ∧ l = tl a ++ m :: tl b ∧ ¬ m ∈ tl a)
set_option maxRecDepth 100000 in
set_option maxHeartbeats 2000000 in
theorem cut58 (w : World) (s S : ByteArray) (m : UInt8) (hS : tl S = [m]) (hs : s.size ≤ maxLen) : Calls Tryd.prog 58 #[.string s, .string S] w fun e w' => ∃ a b ok, e = .returned (.tuple #[.string a, .string b, .bool ok]) ∧ CutR (tl s) m a b ok ∧ ∃ n, w' = w.drewN n := by
  have h := idx65 w s S m hS
  unfold maxLen at hs
  have ez : S.size = 1 := by rw [← tl_len, hS]; rfl
  rcases indexByte_split (tl s) m with ⟨hn, hi⟩ | ⟨a, r, hl, ha, hi⟩
  · rw [hi] at h
    go_enter Tryd.func58, Tryd.ntmps58
    go_wp2_with (go_at_call 65; refine h.mono ?_; rintro e w' ⟨rfl, rfl⟩)
    exact bodyPost_ret (v := .tuple #[.string s, .string { data := #[] }, .bool false]) (by simp [results, Tryd.results58, go_sem]) rfl ⟨_, _, _, rfl, .inl ⟨rfl, hn, rfl, rfl⟩, 0, rfl⟩
  · rw [hi] at h
    have hal : a.length < s.size := by rw [← tl_len, hl]; simp
    have hm1 : decide ((0 : Int) ≤ (a.length : Int)) = true := by simp
    have e1 : tl (s.extract 0 a.length) = a := by rw [tl_extract, hl]; simp
    have e2 : tl (s.extract (a.length + 1) s.size) = r := by
      rw [tl_extract, ← tl_len, List.take_length, hl]
      have : a ++ m :: r = (a ++ [m]) ++ r := by simp
      rw [this]
      have e3 : a.length + 1 = (a ++ [m]).length := by simp
      rw [e3, List.drop_left]
    obtain ⟨n, hnl⟩ : ∃ n, a.length = n := ⟨_, rfl⟩
    rw [hnl] at h e1 e2 hal hm1
    have g1 : (0 : Int) ≤ (n : Int) := by omega
    have g2 : (n : Int) ≤ (s.size : Int) := by omega
    have g3 : (n : Int) + 1 ≤ (s.size : Int) := by omega
    have HL : Hid (tl s = a ++ m :: r) := hl
    clear hl hi hnl
    go_enter Tryd.func58, Tryd.ntmps58
    go_wp2_with (go_at_call 65; refine h.mono ?_; rintro e w' ⟨rfl, rfl⟩)
    go_quiet (fail)
    go_wp2
    exact bodyPost_ret (v := .tuple #[.string (s.extract 0 n), .string (s.extract (n + 1) s.size), .bool true]) (by simp [results, Tryd.results58, go_sem]) rfl ⟨_, _, _, rfl, .inr ⟨rfl, by rw [e1, e2]; exact HL.out, by rw [e1]; exact ha⟩, _, rfl⟩
set_option maxRecDepth 100000 in
theorem cut47 (w : World) (s S : ByteArray) (m : UInt8) (hS : tl S = [m]) (hs : s.size ≤ maxLen) : Calls Tryd.prog 47 #[.string s, .string S] w fun e w' => ∃ a b ok, e = .returned (.tuple #[.string a, .string b, .bool ok]) ∧ CutR (tl s) m a b ok ∧ ∃ n, w' = w.drewN n := by
  have h := cut58 w s S m hS hs
  go_enter Tryd.func47, Tryd.ntmps47
  go_wp2_with (go_at_call 58; refine StopF.out ?_)
  refine StopF.mk (h.mono ?_)
  rintro e w' ⟨a, b, ok, rfl, hc, n, rfl⟩
  go_wp2
  exact bodyPost_ret (v := .tuple #[.string a, .string b, .bool ok]) (by simp [results, Tryd.results47, go_sem]) rfl ⟨_, _, _, rfl, hc, n, rfl⟩

/-- An escape read: what its inside means is handed in. -/
inductive PlainR (M : List UInt8 → Option (List UInt8)) (e : UInt8) : List UInt8 → Nat → List UInt8 → (Nat ⊕ List UInt8) → Prop
  | done (pos : Nat) (out : List UInt8) : PlainR M e [] pos out (.inr out)
  | byte (c : UInt8) (r : List UInt8) (pos : Nat) (out : List UInt8) (R : Nat ⊕ List UInt8) : c ≠ e → PlainR M e r (pos + 1) (out ++ [c]) R → PlainR M e (c :: r) pos out R
  | lone (r : List UInt8) (pos : Nat) (out : List UInt8) : ¬ e ∈ r → PlainR M e (e :: r) pos out (.inl pos)
  | bad (said r : List UInt8) (pos : Nat) (out : List UInt8) : ¬ e ∈ said → M said = none → PlainR M e (e :: (said ++ e :: r)) pos out (.inl pos)
  | esc (said r : List UInt8) (pos : Nat) (out x : List UInt8) (R : Nat ⊕ List UInt8) : ¬ e ∈ said → M said = some x → PlainR M e r (pos + said.length + 2) (out ++ x) R → PlainR M e (e :: (said ++ e :: r)) pos out R
theorem plain_is (M : List UInt8 → Option (List UInt8)) (e : UInt8) : ∀ (n : Nat) (l : List UInt8), l.length ≤ n → ∀ pos out, ∃ R, PlainR M e l pos out R
  | 0, l, h, pos, out => by
    obtain rfl : l = [] := List.eq_nil_of_length_eq_zero (by omega)
    exact ⟨_, .done pos out⟩
  | n + 1, l, h, pos, out => by
    cases l with
    | nil => exact ⟨_, .done pos out⟩
    | cons c r =>
      simp at h
      by_cases hc : c = e
      · subst hc
        rcases indexByte_split r c with ⟨hn, _⟩ | ⟨a, b, rfl, ha, _⟩
        · exact ⟨_, .lone r pos out hn⟩
        · cases hM : M a with
          | none => exact ⟨_, .bad a b pos out ha hM⟩
          | some x =>
            simp at h
            obtain ⟨R, hR⟩ := plain_is M c n b (by omega) (pos + a.length + 2) (out ++ x)
            exact ⟨R, .esc a b pos out x R ha hM hR⟩
      · obtain ⟨R, hR⟩ := plain_is M e n r (by omega) (pos + 1) (out ++ [c])
        exact ⟨R, .byte c r pos out R hc hR⟩
theorem PlainR.skip {M : List UInt8 → Option (List UInt8)} {e : UInt8} : ∀ (a : List UInt8) {r : List UInt8} {pos : Nat} {out : List UInt8} {R : Nat ⊕ List UInt8}, (∀ x ∈ a, x ≠ e) → PlainR M e (a ++ r) pos out R → PlainR M e r (pos + a.length) (out ++ a) R
  | [], r, pos, out, R, _, h => by simpa using h
  | c :: a, r, pos, out, R, ha, h => by
    have hc : c ≠ e := ha c (List.mem_cons_self ..)
    have h' : PlainR M e (c :: (a ++ r)) pos out R := h
    obtain ⟨l, hl⟩ : ∃ l, a ++ r = l := ⟨_, rfl⟩
    rw [hl] at h'
    cases h' with
    | byte _ _ _ _ _ _ h2 =>
      rw [← hl] at h2
      have := PlainR.skip a (fun x hx => ha x (List.mem_cons_of_mem _ hx)) h2
      rw [List.append_assoc] at this
      have e1 : pos + 1 + a.length = pos + (c :: a).length := by simp; omega
      rw [e1] at this
      exact this
    | lone => exact absurd rfl hc
    | bad => exact absurd rfl hc
    | esc => exact absurd rfl hc
theorem split_uniq {e : UInt8} : ∀ {a b : List UInt8} {r q : List UInt8}, ¬ e ∈ a → ¬ e ∈ b → a ++ e :: r = b ++ e :: q → a = b ∧ r = q
  | [], [], r, q, _, _, h => by simpa using h
  | [], c :: b, r, q, _, hb, h => by simp at h; exact absurd (by simp [h.1]) hb
  | c :: a, [], r, q, ha, _, h => by simp at h; exact absurd (by simp [h.1]) ha
  | c :: a, d :: b, r, q, ha, hb, h => by
    simp at h ha hb
    obtain ⟨h1, h2⟩ := split_uniq (e := e) ha.2 hb.2 h.2
    exact ⟨by rw [h.1, h1], h2⟩
/-- An escape mark: how it goes on. -/
theorem PlainR.at_e {M : List UInt8 → Option (List UInt8)} {e : UInt8} {r : List UInt8} {pos : Nat} {out : List UInt8} {R : Nat ⊕ List UInt8} (h : PlainR M e (e :: r) pos out R) :
    (¬ e ∈ r ∧ R = .inl pos) ∨ ∃ a b, r = a ++ e :: b ∧ ¬ e ∈ a ∧ ((M a = none ∧ R = .inl pos) ∨ ∃ x, M a = some x ∧ PlainR M e b (pos + a.length + 2) (out ++ x) R) := by
  cases h with
  | byte _ _ _ _ _ hc _ => exact absurd rfl hc
  | lone _ _ _ hn => exact .inl ⟨hn, rfl⟩
  | bad a b _ _ ha hM => exact .inr ⟨a, b, rfl, ha, .inl ⟨hM, rfl⟩⟩
  | esc a b _ _ x _ ha hM h2 => exact .inr ⟨a, b, rfl, ha, .inr ⟨x, hM, h2⟩⟩
theorem PlainR.nil {M : List UInt8 → Option (List UInt8)} {e : UInt8} {pos : Nat} {out : List UInt8} {R : Nat ⊕ List UInt8} (h : PlainR M e [] pos out R) : R = .inr out := by cases h; rfl
end Go.Proofs.YtnheeenkdjmhoaaDoor
