import Derived.Test.YtoikdpjjcnmgeaaGreatDoorCh
import Derived.Test.YtoikdpjjcnmgeaaGreatDoorXj
import Derived.Test.YtoikdpjjcnmgeaaGreatDoorRT
section
/-
  DERIVED. The document's way through the bytes, against the machine with a stack: plain functions.
-/
namespace Go.Proofs.YtoikdpjjcnmgeaaGreatDoor
open Go Go.Proofs Go.RowKit
open Wk (Nd)

/-- How it ends behind a step. -/
def Res.to (S : Src) (r : Res) (R : Fin) : Prop :=
  match r with
  | .bad a c => R = .bad a c
  | .go k M st => Ends S k M st R
theorem Ends.of {S : Src} {k : Nat} {M : List Nd} {sp : Sp} {rest : List Sp} {R : Fin} (h : (step S k M sp rest).to S R) : Ends S k M (sp :: rest) R := by
  cases hs : step S k M sp rest with
  | bad a c => rw [hs] at h; obtain rfl : R = .bad a c := h; exact .bad hs
  | go k' M' st' => rw [hs] at h; exact .go hs h

/-- A room's span; a sequence's. -/
def rsp (fin : Nat) (opn ex : Bool) (last : Nat) (nd : Option Nat) : Sp := ⟨nd, fin, opn, false, ex, last⟩
def isp (fin : Nat) (opn ex : Bool) (nd : Option Nat) : Sp := ⟨nd, fin, opn, true, ex, 0⟩
/-- It ends badly, whatever is around. -/
def BadFor (S : Src) (m d : Nat) (mk : Option Nat → Sp) (k a c : Nat) : Prop :=
  ∀ (M : List Nd) (nd : Option Nat) (rest : List Sp), M.length = m → (∀ i, nd = some i → i < m) → rest.length = d → Ends S k M (mk nd :: rest) (.bad a c)
/-- It comes to another place within the same span. -/
def GoesFor (S : Src) (m d : Nat) (mk mk' : Option Nat → Sp) (k k' cnt : Nat) (X : List Nd) : Prop :=
  ∀ (M : List Nd) (nd : Option Nat) (rest : List Sp) (R : Fin), M.length = m → (∀ i, nd = some i → i < m) → rest.length = d → Ends S k' (bump M nd cnt ++ X) (mk' nd :: rest) R → Ends S k M (mk nd :: rest) R
/-- It comes out of the span. -/
def OutFor (S : Src) (m d : Nat) (mk : Option Nat → Sp) (k k' cnt : Nat) (X : List Nd) : Prop :=
  ∀ (M : List Nd) (nd : Option Nat) (rest : List Sp) (R : Fin), M.length = m → (∀ i, nd = some i → i < m) → rest.length = d → Ends S k' (bump M nd cnt ++ X) rest R → Ends S k M (mk nd :: rest) R
theorem GoesFor.start (S : Src) (m d : Nat) (mk : Option Nat → Sp) (k : Nat) : GoesFor S m d mk mk k k 0 [] := fun M nd rest _ _ _ _ h => by
  rw [bump_zero, List.append_nil] at h
  exact h
theorem GoesFor.bad {S : Src} {m d : Nat} {mk mk' : Option Nat → Sp} {k k' cnt : Nat} {X : List Nd} {a c : Nat} (h : GoesFor S m d mk mk' k k' cnt X) (hs : ∀ (M : List Nd) (nd : Option Nat) (rest : List Sp), M.length = m + X.length → (∀ i, nd = some i → i < m) → rest.length = d → Ends S k' M (mk' nd :: rest) (.bad a c)) : BadFor S m d mk k a c := fun M nd rest h1 h2 h3 =>
  h M nd rest _ h1 h2 h3 (hs _ nd rest (by rw [List.length_append, bump_len, h1]) h2 h3)
theorem GoesFor.out {S : Src} {m d : Nat} {mk mk' : Option Nat → Sp} {k k' k2 cnt : Nat} {X : List Nd} (h : GoesFor S m d mk mk' k k' cnt X) (hs : ∀ (M : List Nd) (nd : Option Nat) (rest : List Sp), step S k' M (mk' nd) rest = .go k2 M rest) : OutFor S m d mk k k2 cnt X := fun M nd rest _ h1 h2 h3 h4 =>
  h M nd rest _ h1 h2 h3 (.go (hs _ nd rest) h4)
/-- A room is left at its end. -/
theorem zs_end {S : Src} {k : Nat} {M : List Nd} {sp : Sp} {rest : List Sp} (ho : sp.opn = false) (hk : k = sp.fin) : step S k M sp rest = .go k M rest := by
  unfold step
  rw [if_pos ⟨ho, hk⟩]
theorem zs_few {S : Src} {k : Nat} {M : List Nd} {sp : Sp} {rest : List Sp} (h1 : sp.opn = true ∨ k < sp.fin) (h8 : sp.fin - k < 8) : step S k M sp rest = .bad k 122 := by
  unfold step
  rw [if_neg (fun h => by rcases h1 with h1 | h1; rw [h1] at h; cases h.1; omega), if_pos h8]
theorem zs_mark {S : Src} {k : Nat} {M : List Nd} {sp : Sp} {rest : List Sp} (ho : sp.opn = true) (h8 : ¬ sp.fin - k < 8) (ht : S.tag k = mark sp.it) : step S k M sp rest = if S.num (k + 4) ≠ 0 then .bad k 125 else .go (k + 8) M rest := by
  unfold step
  rw [if_neg (fun h => by rw [ho] at h; cases h.1), if_neg h8, if_pos ⟨ho, ht⟩]
theorem zs_in {S : Src} {k : Nat} {M : List Nd} {sp : Sp} {rest : List Sp} (h1 : sp.opn = true ∨ k < sp.fin) (h8 : ¬ sp.fin - k < 8) (ht : ¬ (sp.opn = true ∧ S.tag k = mark sp.it)) : step S k M sp rest = if sp.it = true then stepI S k M sp rest else stepE S k M sp rest := by
  unfold step
  rw [if_neg (fun h => by rcases h1 with h1 | h1; rw [h1] at h; cases h.1; omega), if_neg h8, if_neg ht]

/-- An element's end, whatever is around. -/
def ElBad (S : Src) (m d fin : Nat) (ex : Bool) (k : Nat) (h : Hd) (a c : Nat) : Prop :=
  ∀ (M : List Nd) (nd : Option Nat) (rest : List Sp) (opn : Bool) (last : Nat), M.length = m → (∀ i, nd = some i → i < m) → rest.length = d → (stepB S k M (rsp fin opn ex last nd) rest h).to S (.bad a c)
def ElGo (S : Src) (m d fin : Nat) (ex : Bool) (k : Nat) (h : Hd) (k' : Nat) (X : List Nd) : Prop :=
  ∀ (M : List Nd) (nd : Option Nat) (rest : List Sp) (opn : Bool) (last : Nat) (R : Fin), M.length = m → (∀ i, nd = some i → i < m) → rest.length = d → Ends S k' (bump M nd (if S.tag k % 65536 = 0 then 0 else 1) ++ X) (rsp fin opn ex (S.tag k) nd :: rest) R → (stepB S k M (rsp fin opn ex last nd) rest h).to S R
theorem GoesFor.elem {S : Src} {m d fin k0 k k' cnt last : Nat} {opn ex : Bool} {mk : Option Nat → Sp} {h : Hd} {X X2 : List Nd} (g : GoesFor S m d mk (rsp fin opn ex last) k0 k cnt X) (hs : ∀ (M : List Nd) (nd : Option Nat) (rest : List Sp), step S k M (rsp fin opn ex last nd) rest = stepB S k M (rsp fin opn ex last nd) rest h) (he : ElGo S (m + X.length) d fin ex k h k' X2) : GoesFor S m d mk (rsp fin opn ex (S.tag k)) k0 k' (cnt + if S.tag k % 65536 = 0 then 0 else 1) (X ++ X2) := fun M nd rest R h1 h2 h3 h4 => by
  refine g M nd rest R h1 h2 h3 (Ends.of ?_)
  rw [hs]
  refine he _ nd rest opn last R (by rw [List.length_append, bump_len, h1]) (fun i e => by have := h2 i e; omega) h3 ?_
  rw [bump_app (fun i e => by rw [bump_len, h1]; exact h2 i e), bump_add, List.append_assoc]
  exact h4
theorem GoesFor.elemBad {S : Src} {m d fin k0 k cnt last a c : Nat} {opn ex : Bool} {mk : Option Nat → Sp} {h : Hd} {X : List Nd} (g : GoesFor S m d mk (rsp fin opn ex last) k0 k cnt X) (hs : ∀ (M : List Nd) (nd : Option Nat) (rest : List Sp), step S k M (rsp fin opn ex last nd) rest = stepB S k M (rsp fin opn ex last nd) rest h) (he : ElBad S (m + X.length) d fin ex k h a c) : BadFor S m d mk k0 a c :=
  g.bad fun M nd rest h1 h2 h3 => Ends.of (by rw [hs]; exact he M nd rest opn last h1 (fun i e => by have := h2 i e; omega) h3)

/-- An item's node. -/
def itN (n : Nat) : Nd := ⟨4294893568, 29, (n : Int), ByteArray.empty⟩
theorem stepI_go {S : Src} {k : Nat} {M : List Nd} {sp : Sp} {rest : List Sp} (h1 : S.tag k = 4294893568) (h2 : ¬ (S.num (k + 4) ≠ und ∧ S.num (k + 4) % 2 = 1)) (h3 : ¬ 4 < (rest.length + 1) / 2) (h4 : ¬ (S.num (k + 4) ≠ und ∧ sp.fin - k - 8 < S.num (k + 4))) (h5 : M.length ≠ 4096) :
    stepI S k M sp rest = .go (k + 8) (bump M sp.node 1 ++ [itN 0]) (⟨some M.length, if S.num (k + 4) = und then sp.fin else k + 8 + S.num (k + 4), decide (S.num (k + 4) = und), false, sp.ex, 0⟩ :: sp :: rest) := by
  unfold stepI
  rw [if_neg (fun h => h h1), if_neg h2, if_neg h3, if_neg h4, if_neg h5]
  rfl
theorem GoesFor.item {S : Src} {m d fin k0 k k' cnt n fin2 : Nat} {opn ex opn2 : Bool} {mk : Option Nat → Sp} {X X2 : List Nd} (g : GoesFor S m (2 * d + 1) mk (isp fin opn ex) k0 k cnt X) (hs : ∀ (M : List Nd) (nd : Option Nat) (rest : List Sp), M.length = m + X.length → rest.length = 2 * d + 1 → step S k M (isp fin opn ex nd) rest = .go (k + 8) (bump M nd 1 ++ [itN 0]) (rsp fin2 opn2 ex 0 (some M.length) :: isp fin opn ex nd :: rest)) (ho : OutFor S (m + X.length + 1) (2 * (d + 1)) (rsp fin2 opn2 ex 0) (k + 8) k' n X2) : GoesFor S m (2 * d + 1) mk (isp fin opn ex) k0 k' (cnt + 1) (X ++ (itN n :: X2)) := fun M nd rest R h1 h2 h3 h4 => by
  have hl : (bump M nd cnt ++ X).length = m + X.length := by rw [List.length_append, bump_len, h1]
  refine g M nd rest R h1 h2 h3 (.go (hs _ nd rest hl h3) ?_)
  refine ho _ _ _ R (by rw [List.length_append, bump_len, hl]; rfl) (fun i e => by cases e; rw [hl]; omega) (by simp only [List.length_cons]; omega) ?_
  have hq : bump (bump (bump M nd cnt ++ X) nd 1 ++ [itN 0]) (some (bump M nd cnt ++ X).length) n = bump M nd (cnt + 1) ++ (X ++ [itN n]) := by
    rw [show (bump M nd cnt ++ X).length = (bump (bump M nd cnt ++ X) nd 1).length by rw [bump_len], bump_last, bump_app (fun i e => by rw [bump_len, h1]; exact h2 i e), bump_add, List.append_assoc]
    congr 3
    unfold itN
    simp
  rw [hq, List.append_assoc, List.append_assoc]
  exact h4
theorem GoesFor.itemBad {S : Src} {m d fin k0 k cnt fin2 a c : Nat} {opn ex opn2 : Bool} {mk : Option Nat → Sp} {X : List Nd} (g : GoesFor S m (2 * d + 1) mk (isp fin opn ex) k0 k cnt X) (hs : ∀ (M : List Nd) (nd : Option Nat) (rest : List Sp), M.length = m + X.length → rest.length = 2 * d + 1 → step S k M (isp fin opn ex nd) rest = .go (k + 8) (bump M nd 1 ++ [itN 0]) (rsp fin2 opn2 ex 0 (some M.length) :: isp fin opn ex nd :: rest)) (ho : BadFor S (m + X.length + 1) (2 * (d + 1)) (rsp fin2 opn2 ex 0) (k + 8) a c) : BadFor S m (2 * d + 1) mk k0 a c := fun M nd rest h1 h2 h3 => by
  have hl : (bump M nd cnt ++ X).length = m + X.length := by rw [List.length_append, bump_len, h1]
  refine g M nd rest _ h1 h2 h3 (.go (hs _ nd rest hl h3) ?_)
  exact ho _ _ _ (by rw [List.length_append, bump_len, hl]; rfl) (fun i e => by cases e; rw [hl]; omega) (by simp only [List.length_cons]; omega)

/-- A sequence's node. -/
def sqN (t n : Nat) : Nd := ⟨(t : Int), 18, (n : Int), ByteArray.empty⟩
theorem stepB_seq {S : Src} {k : Nat} {M : List Nd} {sp : Sp} {rest : List Sp} {h : Hd} (h1 : ¬ badLen h = true) (hv : h.v = 18) (h3 : ¬ (h.len ≠ und ∧ sp.fin - k - h.sz < h.len)) (ht : ¬ S.tag k % 65536 = 0) (hm : M.length ≠ 4096) :
    stepB S k M sp rest h = .go (k + h.sz) (bump M sp.node 1 ++ [sqN (S.tag k) 0]) (⟨some M.length, if h.len = und then sp.fin else k + h.sz + h.len, decide (h.len = und), true, h.ex, 0⟩ :: { sp with last := S.tag k } :: rest) := by
  unfold stepB
  rw [if_neg h1, if_neg (fun e => e.1 hv), if_neg h3, if_neg ht, if_neg hm, if_pos hv]
  rfl
theorem ElGo.seq {S : Src} {m d fin k k' n fin2 : Nat} {ex opn2 : Bool} {h : Hd} {X2 : List Nd} (ht : ¬ S.tag k % 65536 = 0) (hs : ∀ (M : List Nd) (nd : Option Nat) (rest : List Sp) (opn : Bool) (last : Nat), M.length = m → stepB S k M (rsp fin opn ex last nd) rest h = .go (k + h.sz) (bump M nd 1 ++ [sqN (S.tag k) 0]) (isp fin2 opn2 h.ex (some M.length) :: rsp fin opn ex (S.tag k) nd :: rest)) (ho : OutFor S (m + 1) (2 * d + 1) (isp fin2 opn2 h.ex) (k + h.sz) k' n X2) : ElGo S m (2 * d) fin ex k h k' (sqN (S.tag k) n :: X2) := fun M nd rest opn last R h1 h2 h3 h4 => by
  rw [hs M nd rest opn last h1]
  show Ends S _ _ _ R
  refine ho _ _ _ R (by rw [List.length_append, bump_len, h1]; rfl) (fun i e => by cases e; rw [h1]; omega) (by simp only [List.length_cons]; omega) ?_
  have hq : bump (bump M nd 1 ++ [sqN (S.tag k) 0]) (some M.length) n = bump M nd 1 ++ [sqN (S.tag k) n] := by
    rw [show M.length = (bump M nd 1).length by rw [bump_len], bump_last]
    unfold sqN
    simp
  rw [if_neg ht] at h4
  rw [hq, List.append_assoc]
  exact h4
theorem ElBad.seq {S : Src} {m d fin k fin2 a c : Nat} {ex opn2 : Bool} {h : Hd} (hs : ∀ (M : List Nd) (nd : Option Nat) (rest : List Sp) (opn : Bool) (last : Nat), M.length = m → stepB S k M (rsp fin opn ex last nd) rest h = .go (k + h.sz) (bump M nd 1 ++ [sqN (S.tag k) 0]) (isp fin2 opn2 h.ex (some M.length) :: rsp fin opn ex (S.tag k) nd :: rest)) (ho : BadFor S (m + 1) (2 * d + 1) (isp fin2 opn2 h.ex) (k + h.sz) a c) : ElBad S m (2 * d) fin ex k h a c := fun M nd rest opn last h1 _ h3 => by
  rw [hs M nd rest opn last h1]
  show Ends S _ _ _ _
  exact ho _ _ _ (by rw [List.length_append, bump_len, h1]; rfl) (fun i e => by cases e; rw [h1]; omega) (by simp only [List.length_cons]; omega)
/-- An element that does not count. -/
theorem ElGo.none {S : Src} {m d fin k : Nat} {ex : Bool} {h : Hd} (h1 : ¬ badLen h = true) (h2 : ¬ (h.v ≠ 18 ∧ 65534 < h.len)) (h3 : ¬ (h.len ≠ und ∧ fin - k - h.sz < h.len)) (ht : S.tag k % 65536 = 0) : ElGo S m d fin ex k h (k + h.sz + h.len) [] := fun M nd rest opn last R _ _ _ h4 => by
  unfold stepB
  rw [if_neg h1, if_neg h2, if_neg (show ¬ (h.len ≠ und ∧ (rsp fin opn ex last nd).fin - k - h.sz < h.len) from h3), if_pos ht]
  rw [if_pos ht, bump_zero, List.append_nil] at h4
  exact h4
theorem ElGo.plain {S : Src} {m d fin k : Nat} {ex : Bool} {h : Hd} (h1 : ¬ badLen h = true) (h2 : ¬ (h.v ≠ 18 ∧ 65534 < h.len)) (h3 : ¬ (h.len ≠ und ∧ fin - k - h.sz < h.len)) (ht : ¬ S.tag k % 65536 = 0) (hm : m ≠ 4096) (hv : h.v ≠ 18) : ElGo S m d fin ex k h (k + h.sz + h.len) [⟨S.tag k, h.v, 0, S.val h.v (k + h.sz) h.len⟩] := fun M nd rest opn last R hl _ _ h4 => by
  unfold stepB
  rw [if_neg h1, if_neg h2, if_neg (show ¬ (h.len ≠ und ∧ (rsp fin opn ex last nd).fin - k - h.sz < h.len) from h3), if_neg ht, if_neg (by rw [hl]; exact hm), if_neg hv]
  rw [if_neg ht] at h4
  exact h4
theorem ElBad.len {S : Src} {m d fin k : Nat} {ex : Bool} {h : Hd} (h1 : badLen h = true) : ElBad S m d fin ex k h k 125 := fun M nd rest opn last _ _ _ => by
  unfold stepB
  rw [if_pos h1]
  rfl
theorem ElBad.long {S : Src} {m d fin k : Nat} {ex : Bool} {h : Hd} (h1 : ¬ badLen h = true) (h2 : h.v ≠ 18 ∧ 65534 < h.len) : ElBad S m d fin ex k h k 121 := fun M nd rest opn last _ _ _ => by
  unfold stepB
  rw [if_neg h1, if_pos h2]
  rfl
theorem ElBad.short {S : Src} {m d fin k : Nat} {ex : Bool} {h : Hd} (h1 : ¬ badLen h = true) (h2 : ¬ (h.v ≠ 18 ∧ 65534 < h.len)) (h3 : h.len ≠ und ∧ fin - k - h.sz < h.len) : ElBad S m d fin ex k h k 122 := fun M nd rest opn last _ _ _ => by
  unfold stepB
  rw [if_neg h1, if_neg h2, if_pos (show h.len ≠ und ∧ (rsp fin opn ex last nd).fin - k - h.sz < h.len from h3)]
  rfl
theorem ElBad.many {S : Src} {d fin k : Nat} {ex : Bool} {h : Hd} (h1 : ¬ badLen h = true) (h2 : ¬ (h.v ≠ 18 ∧ 65534 < h.len)) (h3 : ¬ (h.len ≠ und ∧ fin - k - h.sz < h.len)) (ht : ¬ S.tag k % 65536 = 0) : ElBad S 4096 d fin ex k h k 127 := fun M nd rest opn last hl _ _ => by
  unfold stepB
  rw [if_neg h1, if_neg h2, if_neg (show ¬ (h.len ≠ und ∧ (rsp fin opn ex last nd).fin - k - h.sz < h.len) from h3), if_neg ht, if_pos hl]
  rfl
end Go.Proofs.YtoikdpjjcnmgeaaGreatDoor
end

section
/-
  DERIVED. The document's reader in memory: nodes put behind, counts written; what its three functions tell.
-/
namespace Go.Proofs.YtoikdpjjcnmgeaaGreatDoor
open Go Go.Proofs Go.RowKit
open Wk (Nd nds)
open Go.Sort

theorem Kq.grown {base : Nat} {W W1 : World} {z : Nat} {v : Value} {n : Nat} {xs : List Value} (ho : W.ownsRow base 54 z v n xs) (hg : W.grownBy W1 v.ownBlock) : Kq W W1 := fun _ _ _ e _ h2 => grown_other ho hg e h2
theorem DR.lt {base rb : Nat} {bv nv lv : Value} {c : Int} {W : World} {M : List Nd} (h : DR base rb bv W M nv lv c) : base ≤ W.heap.size := by
  have h1 := h.hb
  have h2 : rb < W.heap.size := Rp.cell_lt h.c0
  omega
theorem DR.added {base rb : Nat} {bv nv nv' lv : Value} {c : Int} {W W1 : World} {M M' : List Nd} (h : DR base rb bv W M nv lv c) (hg : W.grownBy W1 nv.ownBlock) (hn : W1.ownsRow base 54 4 nv' M'.length (nds M')) :
    W1.cell? ⟨rb, 1, none⟩ = some nv ∧ W1.frozen? ⟨rb, 1, none⟩ = false ∧ DR base rb bv (W1.setCell ⟨rb, 1, none⟩ nv') M' nv' lv c ∧ Below base W (W1.setCell ⟨rb, 1, none⟩ nv') ∧ Kq W (W1.setCell ⟨rb, 1, none⟩ nv') := by
  obtain ⟨cs, ht⟩ := h.ty
  have hr := grown_other h.nd hg ht (by decide)
  have c0 := (cell_block (i := 0) hr).trans h.c0
  have c1 := (cell_block (i := 1) hr).trans h.c1
  have c2 := (cell_block (i := 2) hr).trans h.c2
  have c3 := (cell_block (i := 3) hr).trans h.c3
  have fz : ∀ i, W1.frozen? ⟨rb, i, none⟩ = false := fun i => (frozen_block hr).trans (h.fz i)
  have hk : ∀ e : TypeId, e ≠ 79 → ∀ (g : Nat) (cur : Array Value), W1.heap[g]? = some (Obj.cells cur e) → (W1.setCell ⟨rb, 1, none⟩ nv').heap[g]? = W1.heap[g]? := fun e he g cur hgg => heap_setCell_other W1 ⟨rb, 1, none⟩ g nv' (fun hc => by
    have hc : g = rb := hc
    rw [hc, hr, ht] at hgg
    cases hgg
    exact he rfl)
  exact ⟨c1, fz 1, ⟨(Rp.cell_set_ne (by decide)).trans c0, Rp.cell_set_eq c1, (Rp.cell_set_ne (by decide)).trans c2, (Rp.cell_set_ne (by decide)).trans c3, fun i => by simpa using fz i, ty_set ⟨cs, hr.trans ht⟩, own_same hn (hk 54 (by decide)), h.hb⟩,
    (below_grown h.nd hg h.lt).setCell (p := ⟨rb, 1, none⟩) h.hb _, (Kq.grown h.nd hg).trans (Kq.set ⟨cs, hr.trans ht⟩)⟩
theorem DR.kept {base rb : Nat} {bv nv lv : Value} {c : Int} {W W1 : World} {M M' : List Nd} (h : DR base rb bv W M nv lv c) (hg : W.grownBy W1 nv.ownBlock) (hn : W1.ownsRow base 54 4 nv M'.length (nds M')) : DR base rb bv W1 M' nv lv c := by
  obtain ⟨cs, ht⟩ := h.ty
  have hr := grown_other h.nd hg ht (by decide)
  exact ⟨(cell_block hr).trans h.c0, (cell_block hr).trans h.c1, (cell_block hr).trans h.c2, (cell_block hr).trans h.c3, fun i => (frozen_block hr).trans (h.fz i), ⟨cs, hr.trans ht⟩, hn, h.hb⟩
/-- A node's count is written. -/
theorem DR.setN {base rb : Nat} {bv nv lv : Value} {c : Int} {W : World} {M : List Nd} (h : DR base rb bv W M nv lv c) (p : Nat) (hp : p < M.length) (z : Int) :
    ∃ gn ncap, nv = .slice (some ⟨gn, 0, none⟩) M.length ncap ∧ M.length ≤ ncap ∧ W.cell? ⟨rb, 1, none⟩ = some (.slice (some ⟨gn, 0, none⟩) M.length ncap) ∧ W.cell? ⟨gn, p * 4 + 2, none⟩ = some (.int .i64 (M[p]'hp).n) ∧ W.frozen? ⟨gn, p * 4 + 2, none⟩ = false ∧
      DR base rb bv (W.setCell ⟨gn, p * 4 + 2, none⟩ (.int .i64 z)) (M.set p { (M[p]'hp) with n := z }) nv lv c ∧ Below base W (W.setCell ⟨gn, p * 4 + 2, none⟩ (.int .i64 z)) ∧ Kq W (W.setCell ⟨gn, p * 4 + 2, none⟩ (.int .i64 z)) ∧
      (∀ g a, LkAt W g [(dsB, a)] → LkAt (W.setCell ⟨gn, p * 4 + 2, none⟩ (.int .i64 z)) g [(dsB, a)]) := by
  obtain ⟨na, ncap, e, hna⟩ := own_form h.nd
  obtain ⟨gn, rfl, hnc⟩ := hna (by omega)
  subst e
  have d2 : W.cell? ⟨gn, p * 4 + 2, none⟩ = some (.int .i64 (M[p]'hp).n) := (World.ownsRow.cellAt h.nd (p * 4 + 2) (by omega)).trans (Wk.nds_get M p hp 2 (by decide))
  have d0 : W.cell? ⟨gn, 0, none⟩ = some (.int .u32 (M[0]'(by omega)).t) := (World.ownsRow.cellAt h.nd 0 (by omega)).trans (Wk.nds_get M 0 (by omega) 0 (by decide))
  have fn := World.ownsRow.frozenAt h.nd (p * 4 + 2)
  obtain ⟨a, b⟩ := World.ownsRow.stored h.nd (p * 4 + 2) (.int .i64 z)
  rw [nds_setN' M p hp z] at a
  refine ⟨gn, ncap, rfl, hnc, h.c1, d2, fn, h.kept b (by rw [List.length_set]; exact a), below_grown h.nd b h.lt, Kq.grown h.nd b, fun g x hl => ?_⟩
  have hne : gn ≠ g := fun e => by
    have e1 := (hl 0 (by simp)).1
    rw [← e, show (0 * 2 : Nat) = 0 from rfl, d0] at e1
    cases e1
  exact hl.off hne _
/-- What the functions are asked with. -/
structure Ask (base rb : Nat) (a : Option Addr) (n cap : Nat) (ys : List UInt8) (w : World) (L : List Nd) (nv : Value) : Prop where
  bv : BV base w a n cap ys
  dr : DR base rb (.slice a n cap) w L nv (.slice none 0 0) 0
  l4 : L.length ≤ 4096
theorem Ask.on {base rb : Nat} {a : Option Addr} {n cap : Nat} {ys : List UInt8} {w w' : World} {L : List Nd} {nv : Value} (h : Ask base rb a n cap ys w L nv) (hb : Below w.heap.size w w') : Ask base rb a n cap ys w' L nv :=
  ⟨h.bv.on (hb.mono h.dr.lt), h.dr.on hb, h.l4⟩
/-- The reader holds a fault, and no fewer nodes. -/
def BadIn (base rb : Nat) (bv : Value) (w' : World) (m : Nat) (a c : Nat) : Prop := ∃ L' nv', DBad base rb bv w' L' nv' (a : Int) (c : Int) ∧ c ≠ 0 ∧ m ≤ L'.length
theorem BadIn.of {base rb : Nat} {bv nv : Value} {W : World} {M : List Nd} {k : Nat} {c : Nat} (h : DBad base rb bv W M nv (k : Int) (c : Int)) (hc : c ≠ 0) : BadIn base rb bv W M.length k c := ⟨M, nv, h, hc, Nat.le_refl _⟩
theorem BadIn.less {base rb : Nat} {bv : Value} {W : World} {m m' a c : Nat} (h : BadIn base rb bv W m a c) (hm : m' ≤ m) : BadIn base rb bv W m' a c := by
  obtain ⟨L, nv, h1, h2, h3⟩ := h
  exact ⟨L, nv, h1, h2, by omega⟩
/-- What room and items tell. -/
def OutP (S : Src) (base rb : Nat) (a : Option Addr) (n cap : Nat) (ys : List UInt8) (w : World) (L : List Nd) (d : Nat) (mk : Option Nat → Sp) (k fin : Nat) (e : Ending) (w' : World) : Prop :=
  ∃ k' cnt : Nat, e = .returned (.tuple #[.int .i64 (k' : Int), .int .i64 (cnt : Int)]) ∧ Hid (Below base w w') ∧ Hid (Kq w w') ∧
    ((∃ x c, BadIn base rb (.slice a n cap) w' L.length x c ∧ BadFor S L.length d mk k x c) ∨ (∃ X nv', Ask base rb a n cap ys w' (L ++ X) nv' ∧ k ≤ k' ∧ k' ≤ fin ∧ cnt ≤ k' ∧ OutFor S L.length d mk k k' cnt X))
def RmC (d : Nat) : Prop := ∀ (w : World) (base rb : Nat) (a : Option Addr) (n cap : Nat) (ys : List UInt8) (L : List Nd) (nv : Value) (k fin : Nat) (opn ex : Bool), Ask base rb a n cap ys w L nv → k ≤ fin → fin ≤ n →
  Calls Tryz.prog 37 #[.pointer (some ⟨rb, 0, none⟩), .int .i64 (k : Int), .int .i64 (fin : Int), .bool opn, .bool ex, .int .i64 (d : Int)] w (OutP (srcS ys) base rb a n cap ys w L (2 * d) (rsp fin opn ex 0) k fin)
def ItC (d : Nat) : Prop := ∀ (w : World) (base rb : Nat) (a : Option Addr) (n cap : Nat) (ys : List UInt8) (L : List Nd) (nv : Value) (k fin : Nat) (opn ex : Bool), Ask base rb a n cap ys w L nv → k ≤ fin → fin ≤ n →
  Calls Tryz.prog 108 #[.pointer (some ⟨rb, 0, none⟩), .int .i64 (k : Int), .int .i64 (fin : Int), .bool opn, .bool ex, .int .i64 (d : Int)] w (OutP (srcS ys) base rb a n cap ys w L (2 * d + 1) (isp fin opn ex) k fin)
/-- What element tells. -/
def ElP (S : Src) (base rb : Nat) (a : Option Addr) (n cap : Nat) (ys : List UInt8) (w : World) (L : List Nd) (d fin : Nat) (ex : Bool) (k : Nat) (h : Hd) (e : Ending) (w' : World) : Prop :=
  ∃ k' : Nat, e = .returned (.int .i64 (k' : Int)) ∧ Hid (Below base w w') ∧ Hid (Kq w w') ∧
    ((∃ x c, BadIn base rb (.slice a n cap) w' L.length x c ∧ ElBad S L.length d fin ex k h x c) ∨ (∃ X nv', Ask base rb a n cap ys w' (L ++ X) nv' ∧ k + 8 ≤ k' ∧ k' ≤ fin ∧ ElGo S L.length d fin ex k h k' X))
def ElC (d : Nat) : Prop := ∀ (w : World) (base rb : Nat) (a : Option Addr) (n cap : Nat) (ys : List UInt8) (L : List Nd) (nv : Value) (k fin : Nat) (ex same : Bool) (h : Hd), Ask base rb a n cap ys w L nv → fin ≤ n → 8 ≤ h.sz → k + h.sz ≤ fin → (tagS ys k % 65536 = 0 → h.v ≠ 18) → h.len < 4294967296 → (ex && same) = h.ex →
  Calls Tryz.prog 67 #[.pointer (some ⟨rb, 0, none⟩), .int .i64 (k : Int), .int .i64 (fin : Int), .int .u32 (tagS ys k : Int), dhV h.v (k + h.sz) h.len same, .bool ex, .int .i64 (d : Int)] w (ElP (srcS ys) base rb a n cap ys w L (2 * d) fin ex k h)
end Go.Proofs.YtoikdpjjcnmgeaaGreatDoor
end
