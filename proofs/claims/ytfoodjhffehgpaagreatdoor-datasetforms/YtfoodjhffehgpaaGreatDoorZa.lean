import Derived.Test.YtfoodjhffehgpaaGreatDoorVa
import Derived.Test.YtfoodjhffehgpaaGreatDoorIb
import Derived.Test.YtfoodjhffehgpaaGreatDoorRM
import Derived.Test.YtfoodjhffehgpaaGreatDoorBa
section
/-
  DERIVED. Bytes as a reader asks them: plain functions.
-/
namespace Go.Proofs.YtfoodjhffehgpaaGreatDoor
open Go Go.Proofs Go.RowKit
open Wk (Nd)

def gB (ys : List UInt8) (k : Nat) : Nat := (ys.getD k 0).toNat
theorem gB_lt (ys : List UInt8) (k : Nat) : gB ys k < 256 := (ys.getD k 0).toNat_lt
/-- Two bytes, the low one first. -/
def u16S (ys : List UInt8) (k : Nat) : Nat := gB ys k + 256 * gB ys (k + 1)
theorem u16S_lt (ys : List UInt8) (k : Nat) : u16S ys k < 65536 := by
  have := gB_lt ys k; have := gB_lt ys (k + 1); unfold u16S; omega
def tagS (ys : List UInt8) (k : Nat) : Nat := u16S ys k * 65536 + u16S ys (k + 2)
def numS (ys : List UInt8) (k : Nat) : Nat := u16S ys k + 65536 * u16S ys (k + 2)
theorem tagS_lt (ys : List UInt8) (k : Nat) : tagS ys k < 4294967296 := by
  have := u16S_lt ys k; have := u16S_lt ys (k + 2); unfold tagS; omega
theorem numS_lt (ys : List UInt8) (k : Nat) : numS ys k < 4294967296 := by
  have := u16S_lt ys k; have := u16S_lt ys (k + 2); unfold numS; omega
/-- Some of the bytes, as a text. -/
def cutB (ys : List UInt8) (k n : Nat) : ByteArray := ⟨((ys.drop k).take n).toArray⟩
theorem cutB_size (ys : List UInt8) (k n : Nat) : (cutB ys k n).size ≤ n := by
  show ((ys.drop k).take n).toArray.size ≤ n
  simp
  omega
def trS (v : Int) (s : ByteArray) : ByteArray := if Rp.tx (Rp.vn v) then Rp.trimB s else s
theorem trS_size (v : Int) (s : ByteArray) : (trS v s).size ≤ s.size := by
  unfold trS
  split
  · unfold Rp.trimB
    rw [ByteArray.size_extract]
    omega
  · exact Nat.le_refl _
/-- The dictionary's row. -/
def kn (t : Nat) : Option Tb.Row := Tb.docF t (Tb.upTo 10)
def hdI (ys : List UInt8) (k : Nat) : Hd :=
  ⟨if numS ys (k + 4) = und ∧ (kn (tagS ys k)).isSome = false ∧ tagS ys k % 65536 ≠ 0 then 18 else dflt (tagS ys k), 8, numS ys (k + 4), false⟩
/-- May these letters stand with a tag? -/
def mayT (t v : Nat) : Bool := if t % 65536 = 0 then decide (v = 24) else (!(kn t).isSome || (decide ((v : Int) = Tb.eV (kn t)) || decide (v = 25)))
/-- What a head with the letters UN is of. -/
def unk (t : Nat) (h : Hd) : Hd := { h with ex := false, v := if (kn t).isSome = true then Tb.eV (kn t) else if h.len = und then 18 else h.v }
def vrE (ys : List UInt8) (k : Nat) : Nat := Rp.fnd (cutB ys (k + 4) 2) 28 1
def hE0 (ys : List UInt8) (k : Nat) : Hd := ⟨(vrE ys k : Int), if Rp.lo (vrE ys k) = true then 12 else 8, if Rp.lo (vrE ys k) = true then numS ys (k + 8) else u16S ys (k + 6), true⟩
def hdE (ys : List UInt8) (k e : Nat) : Nat ⊕ Hd :=
  if vrE ys k = 0 then .inl 124
  else if Rp.lo (vrE ys k) = true ∧ e - k < 12 then .inl 122
  else if mayT (tagS ys k) (vrE ys k) = false then .inl 124
  else .inr (if vrE ys k = 25 then unk (tagS ys k) (hE0 ys k) else hE0 ys k)
def srcS (ys : List UInt8) : Src := ⟨tagS ys, numS ys, fun x k e => if x = true then hdE ys k e else .inr (hdI ys k), fun v k n => trS v (cutB ys k n)⟩

theorem rows_fine : (Tb.upTo 10).all (fun r => decide (1 ≤ r.v) && (decide (r.v ≤ 28) && (!decide (r.t % 65536 = 0) || decide (r.v = 24)))) = true := by decide +kernel
theorem kn_row {t : Nat} {r : Tb.Row} (h : kn t = some r) : 1 ≤ r.v ∧ r.v ≤ 28 ∧ (t % 65536 = 0 → r.v = 24) := by
  unfold kn at h
  rw [Tb.docF_find t _ Tb.rises] at h
  have h1 := List.mem_of_find?_eq_some h
  have h2 := List.find?_some h
  have h3 := List.all_eq_true.1 rows_fine r h1
  simp only [Bool.and_eq_true, Bool.or_eq_true, decide_eq_true_eq, Bool.not_eq_true', decide_eq_false_iff_not] at h3
  refine ⟨h3.1, h3.2.1, fun ht => h3.2.2.resolve_left (fun hn => hn ?_)⟩
  have h4 : t &&& Tb.maskN r.t = r.t := by simpa [Tb.hit] using h2
  rw [← h4, show (65536 : Nat) = 2 ^ 16 from rfl, Nat.and_mod_two_pow, show t % 2 ^ 16 = 0 from ht, Nat.zero_and]
theorem kn_v {t : Nat} (h : (kn t).isSome = true) : 1 ≤ Tb.eV (kn t) ∧ Tb.eV (kn t) ≤ 28 := by
  obtain ⟨r, hr⟩ := Option.isSome_iff_exists.1 h
  rw [hr]
  obtain ⟨a, b, _⟩ := kn_row hr
  exact ⟨a, b⟩
theorem kn_g {t : Nat} (h : (kn t).isSome = true) (ht : t % 65536 = 0) : Tb.eV (kn t) = 24 := by
  obtain ⟨r, hr⟩ := Option.isSome_iff_exists.1 h
  rw [hr]
  exact (kn_row hr).2.2 ht
theorem fnd_le (s : ByteArray) : ∀ n k, k + n ≤ 29 → Rp.fnd s n k ≤ 28
  | 0, _, _ => by simp [Rp.fnd]
  | n + 1, k, h => by
    rw [Rp.fnd]
    split
    · omega
    · exact fnd_le s n (k + 1) (by omega)
theorem vrE_le (ys : List UInt8) (k : Nat) : vrE ys k ≤ 28 := fnd_le _ 28 1 (by omega)
theorem dflt_v {t : Nat} (hb : isBar t = false) : 1 ≤ dflt t ∧ dflt t ≤ 28 ∧ (t % 65536 = 0 → dflt t = 24) := by
  unfold isBar at hb
  simp only [Bool.or_eq_false_iff, decide_eq_false_iff_not] at hb
  obtain ⟨_, _, h3, _⟩ := hb
  unfold dflt
  rw [if_neg (by intro h; rw [h] at h3; exact h3 (by decide)), if_neg h3]
  by_cases h0 : t % 65536 = 0
  · rw [if_pos h0]; exact ⟨by decide, by decide, fun _ => rfl⟩
  · rw [if_neg h0]
    by_cases hk : (Tb.docF t (Tb.upTo 10)).isSome = true
    · rw [if_pos hk]
      exact ⟨(kn_v hk).1, (kn_v hk).2, fun h => absurd h h0⟩
    · rw [if_neg hk]
      split
      · exact ⟨by decide, by decide, fun h => absurd h h0⟩
      · exact ⟨by decide, by decide, fun h => absurd h h0⟩
theorem src_ok (ys : List UInt8) : (srcS ys).Ok where
  tag k := tagS_lt ys k
  val v k n := Nat.le_trans (trS_size _ _) (cutB_size _ _ _)
  hd x k e h h8 hbar hh := by
    have hbar : isBar (tagS ys k) = false := hbar
    cases x with
    | false =>
      have hh : (Sum.inr (hdI ys k) : Nat ⊕ Hd) = .inr h := hh
      cases hh
      obtain ⟨d1, d2, d3⟩ := dflt_v hbar
      refine ⟨Nat.le_refl 8, by show k + 8 ≤ e; omega, fun h0 => ?_, ?_, ?_⟩
      · show (if _ then (18 : Int) else _) ≠ 18
        rw [if_neg (fun hc => hc.2.2 h0), d3 h0]
        decide
      · show 1 ≤ (if _ then (18 : Int) else _)
        split
        · decide
        · exact d1
      · show (if _ then (18 : Int) else _) ≤ 28
        split
        · decide
        · exact d2
    | true =>
      have hh : hdE ys k e = .inr h := hh
      unfold hdE at hh
      split at hh
      · cases hh
      rename_i hv0
      split at hh
      · cases hh
      rename_i hlo
      split at hh
      · cases hh
      rename_i hmay
      have hv := vrE_le ys k
      have hsz : 8 ≤ (hE0 ys k).sz ∧ k + (hE0 ys k).sz ≤ e := by
        show 8 ≤ (if Rp.lo (vrE ys k) = true then 12 else 8) ∧ k + (if Rp.lo (vrE ys k) = true then 12 else 8) ≤ e
        split
        · rename_i hl
          have : ¬ e - k < 12 := fun he => hlo ⟨hl, he⟩
          omega
        · omega
      have hmay : mayT (tagS ys k) (vrE ys k) = true := by
        rcases hm : mayT (tagS ys k) (vrE ys k) with _ | _
        · exact absurd hm hmay
        · rfl
      by_cases h25 : vrE ys k = 25
      · rw [if_pos h25] at hh
        cases hh
        refine ⟨hsz.1, hsz.2, fun h0 => ?_, ?_, ?_⟩
        · exfalso
          have h0 : tagS ys k % 65536 = 0 := h0
          unfold mayT at hmay
          rw [if_pos h0, h25] at hmay
          revert hmay; decide
        · show 1 ≤ (if (kn (tagS ys k)).isSome = true then Tb.eV (kn (tagS ys k)) else if (hE0 ys k).len = und then 18 else (vrE ys k : Int))
          split
          · rename_i hk; exact (kn_v hk).1
          · split
            · decide
            · omega
        · show (if (kn (tagS ys k)).isSome = true then Tb.eV (kn (tagS ys k)) else if (hE0 ys k).len = und then 18 else (vrE ys k : Int)) ≤ 28
          split
          · rename_i hk; exact (kn_v hk).2
          · split
            · decide
            · omega
      · rw [if_neg h25] at hh
        cases hh
        refine ⟨hsz.1, hsz.2, fun h0 => ?_, ?_, ?_⟩
        · have h0 : tagS ys k % 65536 = 0 := h0
          unfold mayT at hmay
          rw [if_pos h0] at hmay
          have : vrE ys k = 24 := by simpa using hmay
          show (vrE ys k : Int) ≠ 18
          omega
        · show 1 ≤ (vrE ys k : Int)
          omega
        · show (vrE ys k : Int) ≤ 28
          omega
end Go.Proofs.YtfoodjhffehgpaaGreatDoor
end

section
/-
  DERIVED. The document's way through the bytes, against the machine with a stack: plain functions.
-/
namespace Go.Proofs.YtfoodjhffehgpaaGreatDoor
open Go Go.Proofs Go.RowKit
open Wk (Nd)

/-- How it ends behind a step. -/
def Res.to (S : Src) (r : Res) (R : Fin) : Prop :=
  match r with
  | .bad a c => R = .bad a c
  | .go k M st => Ends S k M st R
theorem Ends.of {S : Src} {k : Nat} {M : List Nd} {sp : Sp} {rest : List Sp} {R : Fin} (h : (step S k M sp rest).to S R) : Ends S k M (sp :: rest) R := by
  cases hs : step S k M sp rest with
  | bad a c => rw [hs] at h; obtain rfl : R = .bad a c := h; exact .bad hs
  | go k' M' st' => rw [hs] at h; exact .go hs h

/-- A room's span; a sequence's. -/
def rsp (fin : Nat) (opn ex : Bool) (last : Nat) (nd : Option Nat) : Sp := ⟨nd, fin, opn, false, ex, last⟩
def isp (fin : Nat) (opn ex : Bool) (nd : Option Nat) : Sp := ⟨nd, fin, opn, true, ex, 0⟩
/-- It ends badly, whatever is around. -/
def BadFor (S : Src) (m d : Nat) (mk : Option Nat → Sp) (k a c : Nat) : Prop :=
  ∀ (M : List Nd) (nd : Option Nat) (rest : List Sp), M.length = m → (∀ i, nd = some i → i < m) → rest.length = d → Ends S k M (mk nd :: rest) (.bad a c)
/-- It comes to another place within the same span. -/
def GoesFor (S : Src) (m d : Nat) (mk mk' : Option Nat → Sp) (k k' cnt : Nat) (X : List Nd) : Prop :=
  ∀ (M : List Nd) (nd : Option Nat) (rest : List Sp) (R : Fin), M.length = m → (∀ i, nd = some i → i < m) → rest.length = d → Ends S k' (bump M nd cnt ++ X) (mk' nd :: rest) R → Ends S k M (mk nd :: rest) R
/-- It comes out of the span. -/
def OutFor (S : Src) (m d : Nat) (mk : Option Nat → Sp) (k k' cnt : Nat) (X : List Nd) : Prop :=
  ∀ (M : List Nd) (nd : Option Nat) (rest : List Sp) (R : Fin), M.length = m → (∀ i, nd = some i → i < m) → rest.length = d → Ends S k' (bump M nd cnt ++ X) rest R → Ends S k M (mk nd :: rest) R
theorem GoesFor.start (S : Src) (m d : Nat) (mk : Option Nat → Sp) (k : Nat) : GoesFor S m d mk mk k k 0 [] := fun M nd rest _ _ _ _ h => by
  rw [bump_zero, List.append_nil] at h
  exact h
theorem GoesFor.bad {S : Src} {m d : Nat} {mk mk' : Option Nat → Sp} {k k' cnt : Nat} {X : List Nd} {a c : Nat} (h : GoesFor S m d mk mk' k k' cnt X) (hs : ∀ (M : List Nd) (nd : Option Nat) (rest : List Sp), M.length = m + X.length → (∀ i, nd = some i → i < m) → rest.length = d → Ends S k' M (mk' nd :: rest) (.bad a c)) : BadFor S m d mk k a c := fun M nd rest h1 h2 h3 =>
  h M nd rest _ h1 h2 h3 (hs _ nd rest (by rw [List.length_append, bump_len, h1]) h2 h3)
theorem GoesFor.out {S : Src} {m d : Nat} {mk mk' : Option Nat → Sp} {k k' k2 cnt : Nat} {X : List Nd} (h : GoesFor S m d mk mk' k k' cnt X) (hs : ∀ (M : List Nd) (nd : Option Nat) (rest : List Sp), step S k' M (mk' nd) rest = .go k2 M rest) : OutFor S m d mk k k2 cnt X := fun M nd rest _ h1 h2 h3 h4 =>
  h M nd rest _ h1 h2 h3 (.go (hs _ nd rest) h4)
/-- A room is left at its end. -/
theorem zs_end {S : Src} {k : Nat} {M : List Nd} {sp : Sp} {rest : List Sp} (ho : sp.opn = false) (hk : k = sp.fin) : step S k M sp rest = .go k M rest := by
  unfold step
  rw [if_pos ⟨ho, hk⟩]
theorem zs_few {S : Src} {k : Nat} {M : List Nd} {sp : Sp} {rest : List Sp} (h1 : sp.opn = true ∨ k < sp.fin) (h8 : sp.fin - k < 8) : step S k M sp rest = .bad k 122 := by
  unfold step
  rw [if_neg (fun h => by rcases h1 with h1 | h1; rw [h1] at h; cases h.1; omega), if_pos h8]
theorem zs_mark {S : Src} {k : Nat} {M : List Nd} {sp : Sp} {rest : List Sp} (ho : sp.opn = true) (h8 : ¬ sp.fin - k < 8) (ht : S.tag k = mark sp.it) : step S k M sp rest = if S.num (k + 4) ≠ 0 then .bad k 125 else .go (k + 8) M rest := by
  unfold step
  rw [if_neg (fun h => by rw [ho] at h; cases h.1), if_neg h8, if_pos ⟨ho, ht⟩]
theorem zs_in {S : Src} {k : Nat} {M : List Nd} {sp : Sp} {rest : List Sp} (h1 : sp.opn = true ∨ k < sp.fin) (h8 : ¬ sp.fin - k < 8) (ht : ¬ (sp.opn = true ∧ S.tag k = mark sp.it)) : step S k M sp rest = if sp.it = true then stepI S k M sp rest else stepE S k M sp rest := by
  unfold step
  rw [if_neg (fun h => by rcases h1 with h1 | h1; rw [h1] at h; cases h.1; omega), if_neg h8, if_neg ht]

/-- An element's end, whatever is around. -/
def ElBad (S : Src) (m d fin : Nat) (ex : Bool) (k : Nat) (h : Hd) (a c : Nat) : Prop :=
  ∀ (M : List Nd) (nd : Option Nat) (rest : List Sp) (opn : Bool) (last : Nat), M.length = m → (∀ i, nd = some i → i < m) → rest.length = d → (stepB S k M (rsp fin opn ex last nd) rest h).to S (.bad a c)
def ElGo (S : Src) (m d fin : Nat) (ex : Bool) (k : Nat) (h : Hd) (k' : Nat) (X : List Nd) : Prop :=
  ∀ (M : List Nd) (nd : Option Nat) (rest : List Sp) (opn : Bool) (last : Nat) (R : Fin), M.length = m → (∀ i, nd = some i → i < m) → rest.length = d → Ends S k' (bump M nd (if S.tag k % 65536 = 0 then 0 else 1) ++ X) (rsp fin opn ex (S.tag k) nd :: rest) R → (stepB S k M (rsp fin opn ex last nd) rest h).to S R
theorem GoesFor.elem {S : Src} {m d fin k0 k k' cnt last : Nat} {opn ex : Bool} {mk : Option Nat → Sp} {h : Hd} {X X2 : List Nd} (g : GoesFor S m d mk (rsp fin opn ex last) k0 k cnt X) (hs : ∀ (M : List Nd) (nd : Option Nat) (rest : List Sp), step S k M (rsp fin opn ex last nd) rest = stepB S k M (rsp fin opn ex last nd) rest h) (he : ElGo S (m + X.length) d fin ex k h k' X2) : GoesFor S m d mk (rsp fin opn ex (S.tag k)) k0 k' (cnt + if S.tag k % 65536 = 0 then 0 else 1) (X ++ X2) := fun M nd rest R h1 h2 h3 h4 => by
  refine g M nd rest R h1 h2 h3 (Ends.of ?_)
  rw [hs]
  refine he _ nd rest opn last R (by rw [List.length_append, bump_len, h1]) (fun i e => by have := h2 i e; omega) h3 ?_
  rw [bump_app (fun i e => by rw [bump_len, h1]; exact h2 i e), bump_add, List.append_assoc]
  exact h4
theorem GoesFor.elemBad {S : Src} {m d fin k0 k cnt last a c : Nat} {opn ex : Bool} {mk : Option Nat → Sp} {h : Hd} {X : List Nd} (g : GoesFor S m d mk (rsp fin opn ex last) k0 k cnt X) (hs : ∀ (M : List Nd) (nd : Option Nat) (rest : List Sp), step S k M (rsp fin opn ex last nd) rest = stepB S k M (rsp fin opn ex last nd) rest h) (he : ElBad S (m + X.length) d fin ex k h a c) : BadFor S m d mk k0 a c :=
  g.bad fun M nd rest h1 h2 h3 => Ends.of (by rw [hs]; exact he M nd rest opn last h1 (fun i e => by have := h2 i e; omega) h3)

/-- An item's node. -/
def itN (n : Nat) : Nd := ⟨4294893568, 29, (n : Int), ByteArray.empty⟩
theorem stepI_go {S : Src} {k : Nat} {M : List Nd} {sp : Sp} {rest : List Sp} (h1 : S.tag k = 4294893568) (h2 : ¬ (S.num (k + 4) ≠ und ∧ S.num (k + 4) % 2 = 1)) (h3 : ¬ 4 < (rest.length + 1) / 2) (h4 : ¬ (S.num (k + 4) ≠ und ∧ sp.fin - k - 8 < S.num (k + 4))) (h5 : M.length ≠ 4096) :
    stepI S k M sp rest = .go (k + 8) (bump M sp.node 1 ++ [itN 0]) (⟨some M.length, if S.num (k + 4) = und then sp.fin else k + 8 + S.num (k + 4), decide (S.num (k + 4) = und), false, sp.ex, 0⟩ :: sp :: rest) := by
  unfold stepI
  rw [if_neg (fun h => h h1), if_neg h2, if_neg h3, if_neg h4, if_neg h5]
  rfl
theorem GoesFor.item {S : Src} {m d fin k0 k k' cnt n fin2 : Nat} {opn ex opn2 : Bool} {mk : Option Nat → Sp} {X X2 : List Nd} (g : GoesFor S m (2 * d + 1) mk (isp fin opn ex) k0 k cnt X) (hs : ∀ (M : List Nd) (nd : Option Nat) (rest : List Sp), M.length = m + X.length → rest.length = 2 * d + 1 → step S k M (isp fin opn ex nd) rest = .go (k + 8) (bump M nd 1 ++ [itN 0]) (rsp fin2 opn2 ex 0 (some M.length) :: isp fin opn ex nd :: rest)) (ho : OutFor S (m + X.length + 1) (2 * (d + 1)) (rsp fin2 opn2 ex 0) (k + 8) k' n X2) : GoesFor S m (2 * d + 1) mk (isp fin opn ex) k0 k' (cnt + 1) (X ++ (itN n :: X2)) := fun M nd rest R h1 h2 h3 h4 => by
  have hl : (bump M nd cnt ++ X).length = m + X.length := by rw [List.length_append, bump_len, h1]
  refine g M nd rest R h1 h2 h3 (.go (hs _ nd rest hl h3) ?_)
  refine ho _ _ _ R (by rw [List.length_append, bump_len, hl]; rfl) (fun i e => by cases e; rw [hl]; omega) (by simp only [List.length_cons]; omega) ?_
  have hq : bump (bump (bump M nd cnt ++ X) nd 1 ++ [itN 0]) (some (bump M nd cnt ++ X).length) n = bump M nd (cnt + 1) ++ (X ++ [itN n]) := by
    rw [show (bump M nd cnt ++ X).length = (bump (bump M nd cnt ++ X) nd 1).length by rw [bump_len], bump_last, bump_app (fun i e => by rw [bump_len, h1]; exact h2 i e), bump_add, List.append_assoc]
    congr 3
    unfold itN
    simp
  rw [hq, List.append_assoc, List.append_assoc]
  exact h4
theorem GoesFor.itemBad {S : Src} {m d fin k0 k cnt fin2 a c : Nat} {opn ex opn2 : Bool} {mk : Option Nat → Sp} {X : List Nd} (g : GoesFor S m (2 * d + 1) mk (isp fin opn ex) k0 k cnt X) (hs : ∀ (M : List Nd) (nd : Option Nat) (rest : List Sp), M.length = m + X.length → rest.length = 2 * d + 1 → step S k M (isp fin opn ex nd) rest = .go (k + 8) (bump M nd 1 ++ [itN 0]) (rsp fin2 opn2 ex 0 (some M.length) :: isp fin opn ex nd :: rest)) (ho : BadFor S (m + X.length + 1) (2 * (d + 1)) (rsp fin2 opn2 ex 0) (k + 8) a c) : BadFor S m (2 * d + 1) mk k0 a c := fun M nd rest h1 h2 h3 => by
  have hl : (bump M nd cnt ++ X).length = m + X.length := by rw [List.length_append, bump_len, h1]
  refine g M nd rest _ h1 h2 h3 (.go (hs _ nd rest hl h3) ?_)
  exact ho _ _ _ (by rw [List.length_append, bump_len, hl]; rfl) (fun i e => by cases e; rw [hl]; omega) (by simp only [List.length_cons]; omega)

/-- A sequence's node. -/
def sqN (t n : Nat) : Nd := ⟨(t : Int), 18, (n : Int), ByteArray.empty⟩
theorem stepB_seq {S : Src} {k : Nat} {M : List Nd} {sp : Sp} {rest : List Sp} {h : Hd} (h1 : ¬ badLen h = true) (hv : h.v = 18) (h3 : ¬ (h.len ≠ und ∧ sp.fin - k - h.sz < h.len)) (ht : ¬ S.tag k % 65536 = 0) (hm : M.length ≠ 4096) :
    stepB S k M sp rest h = .go (k + h.sz) (bump M sp.node 1 ++ [sqN (S.tag k) 0]) (⟨some M.length, if h.len = und then sp.fin else k + h.sz + h.len, decide (h.len = und), true, h.ex, 0⟩ :: { sp with last := S.tag k } :: rest) := by
  unfold stepB
  rw [if_neg h1, if_neg (fun e => e.1 hv), if_neg h3, if_neg ht, if_neg hm, if_pos hv]
  rfl
theorem ElGo.seq {S : Src} {m d fin k k' n fin2 : Nat} {ex opn2 : Bool} {h : Hd} {X2 : List Nd} (ht : ¬ S.tag k % 65536 = 0) (hs : ∀ (M : List Nd) (nd : Option Nat) (rest : List Sp) (opn : Bool) (last : Nat), M.length = m → stepB S k M (rsp fin opn ex last nd) rest h = .go (k + h.sz) (bump M nd 1 ++ [sqN (S.tag k) 0]) (isp fin2 opn2 h.ex (some M.length) :: rsp fin opn ex (S.tag k) nd :: rest)) (ho : OutFor S (m + 1) (2 * d + 1) (isp fin2 opn2 h.ex) (k + h.sz) k' n X2) : ElGo S m (2 * d) fin ex k h k' (sqN (S.tag k) n :: X2) := fun M nd rest opn last R h1 h2 h3 h4 => by
  rw [hs M nd rest opn last h1]
  show Ends S _ _ _ R
  refine ho _ _ _ R (by rw [List.length_append, bump_len, h1]; rfl) (fun i e => by cases e; rw [h1]; omega) (by simp only [List.length_cons]; omega) ?_
  have hq : bump (bump M nd 1 ++ [sqN (S.tag k) 0]) (some M.length) n = bump M nd 1 ++ [sqN (S.tag k) n] := by
    rw [show M.length = (bump M nd 1).length by rw [bump_len], bump_last]
    unfold sqN
    simp
  rw [if_neg ht] at h4
  rw [hq, List.append_assoc]
  exact h4
theorem ElBad.seq {S : Src} {m d fin k fin2 a c : Nat} {ex opn2 : Bool} {h : Hd} (hs : ∀ (M : List Nd) (nd : Option Nat) (rest : List Sp) (opn : Bool) (last : Nat), M.length = m → stepB S k M (rsp fin opn ex last nd) rest h = .go (k + h.sz) (bump M nd 1 ++ [sqN (S.tag k) 0]) (isp fin2 opn2 h.ex (some M.length) :: rsp fin opn ex (S.tag k) nd :: rest)) (ho : BadFor S (m + 1) (2 * d + 1) (isp fin2 opn2 h.ex) (k + h.sz) a c) : ElBad S m (2 * d) fin ex k h a c := fun M nd rest opn last h1 _ h3 => by
  rw [hs M nd rest opn last h1]
  show Ends S _ _ _ _
  exact ho _ _ _ (by rw [List.length_append, bump_len, h1]; rfl) (fun i e => by cases e; rw [h1]; omega) (by simp only [List.length_cons]; omega)
/-- An element that does not count. -/
theorem ElGo.none {S : Src} {m d fin k : Nat} {ex : Bool} {h : Hd} (h1 : ¬ badLen h = true) (h2 : ¬ (h.v ≠ 18 ∧ 65534 < h.len)) (h3 : ¬ (h.len ≠ und ∧ fin - k - h.sz < h.len)) (ht : S.tag k % 65536 = 0) : ElGo S m d fin ex k h (k + h.sz + h.len) [] := fun M nd rest opn last R _ _ _ h4 => by
  unfold stepB
  rw [if_neg h1, if_neg h2, if_neg (show ¬ (h.len ≠ und ∧ (rsp fin opn ex last nd).fin - k - h.sz < h.len) from h3), if_pos ht]
  rw [if_pos ht, bump_zero, List.append_nil] at h4
  exact h4
theorem ElGo.plain {S : Src} {m d fin k : Nat} {ex : Bool} {h : Hd} (h1 : ¬ badLen h = true) (h2 : ¬ (h.v ≠ 18 ∧ 65534 < h.len)) (h3 : ¬ (h.len ≠ und ∧ fin - k - h.sz < h.len)) (ht : ¬ S.tag k % 65536 = 0) (hm : m ≠ 4096) (hv : h.v ≠ 18) : ElGo S m d fin ex k h (k + h.sz + h.len) [⟨S.tag k, h.v, 0, S.val h.v (k + h.sz) h.len⟩] := fun M nd rest opn last R hl _ _ h4 => by
  unfold stepB
  rw [if_neg h1, if_neg h2, if_neg (show ¬ (h.len ≠ und ∧ (rsp fin opn ex last nd).fin - k - h.sz < h.len) from h3), if_neg ht, if_neg (by rw [hl]; exact hm), if_neg hv]
  rw [if_neg ht] at h4
  exact h4
theorem ElBad.len {S : Src} {m d fin k : Nat} {ex : Bool} {h : Hd} (h1 : badLen h = true) : ElBad S m d fin ex k h k 125 := fun M nd rest opn last _ _ _ => by
  unfold stepB
  rw [if_pos h1]
  rfl
theorem ElBad.long {S : Src} {m d fin k : Nat} {ex : Bool} {h : Hd} (h1 : ¬ badLen h = true) (h2 : h.v ≠ 18 ∧ 65534 < h.len) : ElBad S m d fin ex k h k 121 := fun M nd rest opn last _ _ _ => by
  unfold stepB
  rw [if_neg h1, if_pos h2]
  rfl
theorem ElBad.short {S : Src} {m d fin k : Nat} {ex : Bool} {h : Hd} (h1 : ¬ badLen h = true) (h2 : ¬ (h.v ≠ 18 ∧ 65534 < h.len)) (h3 : h.len ≠ und ∧ fin - k - h.sz < h.len) : ElBad S m d fin ex k h k 122 := fun M nd rest opn last _ _ _ => by
  unfold stepB
  rw [if_neg h1, if_neg h2, if_pos (show h.len ≠ und ∧ (rsp fin opn ex last nd).fin - k - h.sz < h.len from h3)]
  rfl
theorem ElBad.many {S : Src} {d fin k : Nat} {ex : Bool} {h : Hd} (h1 : ¬ badLen h = true) (h2 : ¬ (h.v ≠ 18 ∧ 65534 < h.len)) (h3 : ¬ (h.len ≠ und ∧ fin - k - h.sz < h.len)) (ht : ¬ S.tag k % 65536 = 0) : ElBad S 4096 d fin ex k h k 127 := fun M nd rest opn last hl _ _ => by
  unfold stepB
  rw [if_neg h1, if_neg h2, if_neg (show ¬ (h.len ≠ und ∧ (rsp fin opn ex last nd).fin - k - h.sz < h.len) from h3), if_neg ht, if_pos hl]
  rfl
end Go.Proofs.YtfoodjhffehgpaaGreatDoor
end
