import Derived.Test.YtilkogodhjnemaaGreatDoorBo
import Derived.Test.YtilkogodhjnemaaGreatDoorBi
/-
  DERIVED. Elements laid down: the document's.
-/
namespace Go.Proofs.YtilkogodhjnemaaGreatDoor
open Go Go.Proofs Go.RowKit
open Wk (Nd NV goN nxt)

theorem wf_fuel (E I : Nd → Bool) : ∀ (f g : Nat) (b : Bool) (M : List Nd), M.length ≤ f → M.length ≤ g → wf E I f b M → wf E I g b M
  | 0, g, b, M, hf, _, _ => by
    obtain rfl : M = [] := List.length_eq_zero_iff.1 (by omega)
    exact wf_nil _ _ _ _
  | f + 1, g, b, [], _, _, _ => wf_nil _ _ _ _
  | f + 1, 0, b, a :: r, _, hg, _ => by simp at hg
  | f + 1, g + 1, b, a :: r, hf, hg, h => by
    obtain ⟨h1, h2, h3⟩ := h
    obtain ⟨l1, l2⟩ := cut_len r a.n.toNat
    simp only [List.length_cons] at hf hg
    exact ⟨h1, wf_fuel E I f g _ _ (by omega) (by omega) h2, wf_fuel E I f g _ _ (by omega) (by omega) h3⟩
/-- Part of a list is a data set's level. -/
def Wf (L : List Nd) (b : Bool) (i e : Nat) : Prop := wf elemOk itemOk (sub L i e).length b (sub L i e)
theorem Wf.next {L : List Nd} {b : Bool} {i e : Nat} (h : Wf L b i e) (hlev : Lev L i e) (hi : i < e) (he : e ≤ L.length) : (if b = true then itemOk (L[i]'(by omega)) else elemOk (L[i]'(by omega))) = true ∧ Wf L (!b) (i + 1) (nxt L i) ∧ Wf L b (nxt L i) e := by
  obtain ⟨h1, h2, -, -, -⟩ := hlev.next hi he
  obtain ⟨c1, c2⟩ := sub_cut hlev hi he
  have l1 := sub_len (L := L) (i := i + 1) (e := e) he
  have l2 := sub_len (L := L) (i := i + 1) (e := nxt L i) (by omega)
  have l3 := sub_len (L := L) (i := nxt L i) (e := e) he
  unfold Wf at h ⊢
  rw [sub_cons hi he, List.length_cons] at h
  obtain ⟨g1, g2, g3⟩ := h
  rw [c1] at g2
  rw [c2] at g3
  exact ⟨g1, wf_fuel _ _ _ _ _ _ (by omega) (Nat.le_refl _) g2, wf_fuel _ _ _ _ _ _ (by omega) (Nat.le_refl _) g3⟩
theorem Wf.len {L : List Nd} {b : Bool} {i e : Nat} (x : Bool) (h : Wf L b i e) (hg : Good L) : ((encOf x).lD b (sub L i e)).length = (encOf x).sD b (sub L i e) := by
  obtain ⟨h1, h2⟩ := Enc.same (fitX x) _ b _ h
  unfold Enc.lD Enc.sD
  rw [h1, h2, wr_len x _ _ (Nat.le_refl _) (good_sub hg _ _)]
set_option maxRecDepth 100000 in
theorem head_any (x : Bool) (w : World) (base : Nat) (b : Value) (ys : List UInt8) (t n : Nat) (ht : t < 4294967296) (hn : n < 4294967296) (v z : Int) (s : ByteArray) (hv : 1 ≤ v ∧ v ≤ 28) (hown : Ob base w b ys) (hb : base ≤ w.heap.size) (hl : ys.length ≤ 30000000) :
    Calls Tryz.prog 38 #[b, .int .u32 (t : Int), .int .i64 v, .int .u64 (n : Int), .bool x] w fun e w' => ∃ u, e = .returned u ∧ Hid (Ob base w' u (ys ++ (encOf x).hd ⟨(t : Int), v, z, s⟩ n)) ∧ Hid (By base w w') := by
  cases x with
  | false => exact headI_any w base b ys t n ht hn v hown hb hl
  | true =>
    have e : (encOf true).hd ⟨(t : Int), v, z, s⟩ n = exL t v n := by
      show (if v = 29 then plL (t : Int).toNat n else exL (t : Int).toNat v n) = _
      rw [if_neg (by omega)]
      rfl
    rw [e]
    exact headE_any w base b ys t n ht hn v hv hown hb hl
/-- A list, and bytes to lay it down behind. -/
structure Ly (base b off n cap : Nat) (L : List Nd) (W : World) : Prop where
  nv : NV W (some ⟨b, off, none⟩) n cap L
  lt : b < base
  tg : TagsOk L
  gd : Good L
  n40 : n ≤ 4096
  hb : base ≤ W.heap.size
theorem Ly.by {base b off n cap : Nat} {L : List Nd} {W W' : World} (h : Ly base b off n cap L W) (hb : By base W W') : Ly base b off n cap L W' := ⟨NV.lo h.nv hb.b h.lt, h.lt, h.tg, h.gd, h.n40, Nat.le_trans h.hb hb.size⟩
theorem Ly.ls {base b off n cap : Nat} {L : List Nd} {W : World} (h : Ly base b off n cap L W) : Ls W (some ⟨b, off, none⟩) n cap L := ⟨h.nv, h.tg, h.gd, h.n40⟩
def RlC (m : Nat) : Prop := ∀ (W : World) (base b off n cap : Nat) (L : List Nd) (x : Bool) (i e : Nat) (v : Value) (ys : List UInt8), e - i ≤ m → Ly base b off n cap L W → i ≤ e → e ≤ n → Lev L i e → Wf L false i e → Ob base W v ys → ys.length + (encOf x).sD false (sub L i e) ≤ 3000000 →
  Calls Tryz.prog 21 #[v, .slice (some ⟨b, off, none⟩) n cap, .int .i64 (i : Int), .int .i64 (e : Int), .bool x] W fun r W' => ∃ u, r = .returned u ∧ Hid (Ob base W' u (ys ++ (encOf x).lD false (sub L i e))) ∧ Hid (By base W W')
end Go.Proofs.YtilkogodhjnemaaGreatDoor
