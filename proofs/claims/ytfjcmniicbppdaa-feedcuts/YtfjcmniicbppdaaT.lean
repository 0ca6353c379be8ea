import Derived.Test.YtfjcmniicbppdaaS
/-
  DERIVED. What the law of cuts lays in memory.
-/
namespace Go.Proofs.Ytfjcmniicbppdaa
open Go Go.Proofs Go.RowKit Go.Deep

structure A1 (w W : World) (va vw : Value) (al : List Nat) (wt : List ByteArray) : Prop where
  be : Below w.heap.size w W
  oa : W.ownsRow w.heap.size 5 1 va al.length (u8s al)
  ow : W.ownsRow w.heap.size 9 1 vw wt.length (wt.map .string)
  bt : ∀ x ∈ al, x < 256

theorem owns_ty {W : World} {B B' n n' : Nat} {e e' : TypeId} {z z' : Nat} {v v' : Value} {xs xs' : List Value} (h : W.ownsRow B e z v n xs) (h' : W.ownsRow B' e' z' v' n' xs') (he : e ≠ e') {g : Nat} (hg : v.ownBlock = some g) : v'.ownBlock ≠ some g := by
  intro hg'
  rcases h.2 with ⟨rfl, _⟩ | ⟨a, _, _, rfl, _, hh, _⟩
  · cases hg
  · rcases h'.2 with ⟨rfl, _⟩ | ⟨a', _, _, rfl, _, hh', _⟩
    · cases hg'
    · have e1 : a = g := Option.some.inj hg
      have e2 : a' = g := Option.some.inj hg'
      subst e1 e2
      rw [hh] at hh'
      injection hh' with hh'
      injection hh' with _ hh' _
      exact he hh'

section
variable {w W X W' : World} {va vw va' vw' : Value} {al al' : List Nat} {wt wt' : List ByteArray}
theorem A1.on (h : A1 w W va vw al wt) (hb : Below W.heap.size W W') : A1 w W' va vw al wt :=
  ⟨h.be.trans (hb.mono h.be.size), ownsRow_below h.oa hb (Nat.le_refl _), ownsRow_below h.ow hb (Nat.le_refl _), h.bt⟩
theorem below_grown {r : Option Nat} (hb : Below w.heap.size w W) (hX : Below W.heap.size W X) (hg : X.grownBy W' r) (hr : ∀ j, r = some j → w.heap.size ≤ j) : Below w.heap.size w W' := by
  have h1 := hb.trans (hX.mono hb.size)
  exact ⟨hg.os.trans h1.os, hg.tape.trans h1.tape, hg.output.trans h1.output, Nat.le_trans h1.size hg.size, fun k hk => (hg.block k (Nat.lt_of_lt_of_le hk h1.size) (fun e => by have := hr k e.symm; omega)).trans (h1.block k hk)⟩
theorem A1.pushA (h : A1 w W va vw al wt) (hX : Below W.heap.size W X) (hg : X.grownBy W' va.ownBlock) (ho : W'.ownsRow w.heap.size 5 1 va' al'.length (u8s al')) (hb : ∀ x ∈ al', x < 256) : A1 w W' va' vw al' wt :=
  ⟨below_grown h.be hX hg (fun j hj => (h.oa.lt j hj).1), ho, owns_of h.ow (fun g hv => (hg.block g (Nat.lt_of_lt_of_le (h.ow.lt g hv).2 hX.size) (fun e => owns_ty h.ow h.oa (by decide) hv e.symm)).trans (hX.block g (h.ow.lt g hv).2)), hb⟩
theorem A1.pushW (h : A1 w W va vw al wt) (hX : Below W.heap.size W X) (hg : X.grownBy W' vw.ownBlock) (ho : W'.ownsRow w.heap.size 9 1 vw' wt'.length (wt'.map .string)) : A1 w W' va vw' al wt' :=
  ⟨below_grown h.be hX hg (fun j hj => (h.ow.lt j hj).1), owns_of h.oa (fun g hv => (hg.block g (Nat.lt_of_lt_of_le (h.oa.lt g hv).2 hX.size) (fun e => owns_ty h.oa h.ow (by decide) hv e.symm)).trans (hX.block g (h.oa.lt g hv).2)), ho, h.bt⟩
end

/-- Texts that lie there. -/
def TX (w : World) (v : Value) (T : List ByteArray) : Prop :=
  ∃ ao cap, v = .slice ao T.length cap ∧ ∀ k, k < T.length → ∃ b off, ao = some ⟨b, off, none⟩ ∧ w.cell? ⟨b, off + k, none⟩ = some (.string (T.getD k ⟨#[]⟩)) ∧ (T.getD k ⟨#[]⟩).size ≤ 9223372036854775807
/-- Numbers that lie there. -/
def IX (w : World) (v : Value) (Z : List Int) : Prop :=
  ∃ ao cap, v = .slice ao Z.length cap ∧ ∀ k, k < Z.length → ∃ b off, ao = some ⟨b, off, none⟩ ∧ w.cell? ⟨b, off + k, none⟩ = some (.int .i64 (Z.getD k 0))

def bwOf (bt : List Nat) : List Nat := (bt.take 100).filter (· != 11)
theorem bw_len (bt : List Nat) : (bwOf bt).length ≤ 100 := by
  refine Nat.le_trans (List.length_filter_le _ _) ?_
  rw [List.length_take]; omega
theorem bw_ne (bt : List Nat) : ∀ x ∈ bwOf bt, x ≠ 11 := by
  intro x hx
  have := (List.mem_filter.1 hx).2
  simpa using this
theorem alB_len (bw : List Nat) (hb : bw.length ≤ 100) : ∀ (wt : List ByteArray), (∀ t ∈ wt, cl t = true) → (alB bw wt).length ≤ wt.length * 16487
  | [], _ => by simp [alB]
  | t :: r, h => by
    have h1 := (cl_iff (h t (List.mem_cons_self ..))).2
    have h2 := alB_len bw hb r fun x hx => h x (List.mem_cons_of_mem _ hx)
    show ((fb t ++ bw) ++ alB bw r).length ≤ (r.length + 1) * 16487
    rw [List.length_append, List.length_append, fb_length]
    omega
theorem filter_take_succ (T : List ByteArray) (p : ByteArray → Bool) (i : Nat) (h : i < T.length) : (T.take (i + 1)).filter p = (T.take i).filter p ++ if p (T.getD i ⟨#[]⟩) then [T.getD i ⟨#[]⟩] else [] := by
  rw [List.take_add_one, List.getElem?_eq_getElem h, List.filter_append, List.getD_eq_getElem?_getD, List.getElem?_eq_getElem h]
  congr 1
  simp only [Option.toList_some, Option.getD_some, List.filter_cons, List.filter_nil]
theorem filterN_take_succ (T : List Nat) (p : Nat → Bool) (i : Nat) (h : i < T.length) : (T.take (i + 1)).filter p = (T.take i).filter p ++ if p (T.getD i 0) then [T.getD i 0] else [] := by
  rw [List.take_add_one, List.getElem?_eq_getElem h, List.filter_append, List.getD_eq_getElem?_getD, List.getElem?_eq_getElem h]
  congr 1
  simp only [Option.toList_some, Option.getD_some, List.filter_cons, List.filter_nil]
theorem info9s : (Try.prog.info? 9).map (fun i => (i.zero, i.size, i.bytes)) = some (some (.string ⟨#[]⟩), 1, 16) := by kernel_rfl

def OkF (a : FSt) : Prop := (a.1 = 1 ∧ a.2.1 = [] ∧ a.2.2 = false) ∨ a.1 = 2 ∨ a.1 = 3
theorem lk_okF (c : Nat) (tx : List Nat) (lg : Bool) : OkF (lk c tx lg) := by
  unfold lk
  split
  · exact .inr (.inl rfl)
  · split
    · exact .inr (.inr rfl)
    · exact .inr (.inl rfl)
theorem sp_okF (c : Nat) (a : FSt) : OkF (sp c a) := by
  unfold sp
  split
  · split
    · exact .inr (.inl rfl)
    · exact .inl ⟨rfl, rfl, rfl⟩
  · split
    · exact lk_okF _ _ _
    · split
      · exact .inl ⟨rfl, rfl, rfl⟩
      · exact lk_okF _ _ _
theorem tk_okF (bs : List Nat) : ∀ (a : FSt) (fs : Fs), OkF a → OkF (tk bs a fs).1 := by
  induction bs with
  | nil => intro a fs h; exact h
  | cons c r ih => intro a fs _; exact ih _ _ (sp_okF c a)

structure A2 (w W : World) (va vw : Value) (al : List Nat) (wt : List ByteArray) (q : Nat) (u : Value) (a : FSt) (vg : Value) (fs : Fs) : Prop where
  a1 : A1 w W va vw al wt
  fr : FR W q u (a.1 : Int) a.2.1 a.2.2
  ok : OkF a
  hq : w.heap.size ≤ q
  ds : ∀ g, u.ownBlock = some g → va.ownBlock ≠ some g
  og : W.ownsRow w.heap.size 37 2 vg fs.length (fsC fs)

theorem row_ty {W : World} {B n q : Nat} {e : TypeId} {z m : Nat} {v : Value} {xs : List Value} {f : Nat → Value} (h : W.ownsRow B e z v n xs) (hr : W.rowIs q 25 m f) (he : e ≠ 25) : v.ownBlock ≠ some q := by
  intro hg
  rcases h.2 with ⟨rfl, _⟩ | ⟨a, _, _, rfl, _, hh, _⟩
  · cases hg
  · have e1 : a = q := Option.some.inj hg
    subst e1
    obtain ⟨c, hc, _⟩ := hr
    rw [hh] at hc
    injection hc with hc
    injection hc with _ hc _
    exact he hc

section
variable {w W X W' : World} {va vw u u' vg vg' told : Value} {al : List Nat} {wt : List ByteArray} {q : Nat} {a a' : FSt} {fs fs' : Fs}
theorem A2.on (h : A2 w W va vw al wt q u a vg fs) (hb : Below W.heap.size W W') : A2 w W' va vw al wt q u a vg fs :=
  ⟨h.a1.on hb, h.fr.next hb, h.ok, h.hq, h.ds, ownsRow_below h.og hb (Nat.le_refl _)⟩
theorem A2.take (h : A2 w W va vw al wt q u a vg fs) (hT : TI W q u W' u' told (a'.1 : Int) a'.2.1 a'.2.2 fs') (ho : OkF a') : A2 w W' va vw al wt q u' a' vg fs := by
  have hn : ∀ {v : Value} {e : TypeId} {z n : Nat} {xs : List Value}, W.ownsRow w.heap.size e z v n xs → e ≠ 25 → (∀ g, v.ownBlock = some g → u.ownBlock ≠ some g) → W'.ownsRow w.heap.size e z v n xs := fun {v e z n xs} ho he hu =>
    owns_of ho fun g hg => hT.ch.block g (ho.lt g hg).2 (by
      rintro (rfl | hu')
      · exact row_ty ho h.fr.row he hg
      · exact hu g hg hu')
  refine ⟨⟨h.a1.be.trans ⟨hT.ch.os, hT.ch.tape, hT.ch.output, hT.ch.size, fun k hk => hT.ch.block k (Nat.lt_of_lt_of_le hk h.a1.be.size) ?_⟩, hn h.a1.oa (by decide) (fun g hg hu => h.ds g hu hg), hn h.a1.ow (by decide) (fun g hg hu => owns_ty h.a1.ow h.fr.own (by decide) hg hu), h.a1.bt⟩, hT.fr, ho, h.hq, ?_, hn h.og (by decide) (fun g hg hu => owns_ty h.og h.fr.own (by decide) hg hu)⟩
  · have := h.hq
    rintro (rfl | hu)
    · omega
    · have := (h.fr.own.lt k hu).1; omega
  · intro g hg hv
    rcases hT.ub with e | e
    · exact h.ds g (by rw [← e]; exact hg) hv
    · have := e g hg; have := (h.a1.oa.lt g hv).2; omega
theorem A2.pushG (h : A2 w W va vw al wt q u a vg fs) (hX : Below W.heap.size W X) (hg : X.grownBy W' vg.ownBlock) (ho : W'.ownsRow w.heap.size 37 2 vg' fs'.length (fsC fs')) : A2 w W' va vw al wt q u a vg' fs' := by
  have h2 := h.on hX
  have hn : ∀ {v : Value} {e : TypeId} {B z n : Nat} {xs : List Value}, X.ownsRow B e z v n xs → e ≠ 37 → W'.ownsRow B e z v n xs := fun {v e B z n xs} ho he =>
    owns_of ho fun g hv => hg.block g (ho.lt g hv).2 (fun e1 => owns_ty ho h2.og he hv e1.symm)
  refine ⟨⟨below_grown h.a1.be hX hg (fun j hj => (h.og.lt j hj).1), hn h2.a1.oa (by decide), hn h2.a1.ow (by decide), h.a1.bt⟩, ?_, h.ok, h.hq, h.ds, ho⟩
  refine ⟨h2.fr.row.of_block (hg.block q h2.fr.row.lt (fun e1 => row_ty h2.og h2.fr.row (by decide) e1.symm)), hn h2.fr.own (by decide), h.fr.byt, h.fr.len⟩
end

theorem own_sub {W : World} {B g cap : Nat} {al : List Nat} (h : W.ownsRow B 5 1 (.slice (some ⟨g, 0, none⟩) al.length cap) al.length (u8s al)) (hb : ∀ x ∈ al, x < 256) {k n : Nat} (hn : 1 ≤ n) (hk : k + n ≤ al.length) (hc : al.length ≤ cap) : V W (.slice (some ⟨g, k, none⟩) n (cap - k)) ((al.drop k).take n) := by
  have hl : ((al.drop k).take n).length = n := by rw [List.length_take, List.length_drop]; omega
  refine .inr ⟨g, k, cap - k, by rw [hl], by omega, by omega, fun j hj => ?_, fun x hx => hb x (List.mem_of_mem_drop (List.mem_of_mem_take hx))⟩
  rw [hl] at hj
  rw [h.cellAt (k + j) (by omega), u8s_get al (k + j) (by omega)]
  have e : al.getD (k + j) 0 = ((al.drop k).take n).getD j 0 := by
    rw [List.getD_eq_getElem?_getD, List.getD_eq_getElem?_getD, List.getElem?_take_of_lt hj, List.getElem?_drop]
  rw [e]
theorem tk_cut (al : List Nat) (k n : Nat) (a : FSt) (fs : Fs) : tk (al.drop k) a fs = tk (al.drop (k + n)) (tk ((al.drop k).take n) a []).1 (fs ++ (tk ((al.drop k).take n) a []).2) := by
  have e : al.drop k = (al.drop k).take n ++ al.drop (k + n) := by rw [← List.drop_drop, List.take_append_drop]
  have e2 := tk_acc ((al.drop k).take n) a fs []
  rw [List.append_nil] at e2
  rw [e, tk_app, ← e, e2]
theorem fs_take_succ (fs : Fs) (j : Nat) (h : j < fs.length) : fs.take (j + 1) = fs.take j ++ [fs.getD j ([], false)] := by
  rw [List.take_add_one, List.getElem?_eq_getElem h, List.getD_eq_getElem?_getD, List.getElem?_eq_getElem h]
  rfl
theorem hd_le {s n : Nat} (h : n ≤ 16384) : hd s n ≤ 16385 := by unfold hd; split <;> omega
end Go.Proofs.Ytfjcmniicbppdaa
