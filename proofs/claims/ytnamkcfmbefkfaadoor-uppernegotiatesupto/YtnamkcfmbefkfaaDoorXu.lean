import Derived.Test.YtnamkcfmbefkfaaDoorU
import Derived.Test.YtnamkcfmbefkfaaDoorQ
namespace Go.Proofs.YtnamkcfmbefkfaaDoor
open Go Go.Proofs Go.RowKit
section
variable {H : Type} {enc : TypeId × Value → H} {W : World} {base : Nat} {spare : Nat → Bool} {held : Bool}
set_option maxRecDepth 100000 in
theorem Rd.pdu {cs : List Value} (h : Rd enc W base spare held 33 cs) (hl : cs.length = 19) : ∃ k c, cs = (Pd k c).toList ∧ RP W c := by
  match cs, hl with
  | [a0, a1, a2, a3, a4, a5, a6, a7, a8, a9, a10, a11, a12, a13, a14, a15, a16, a17, a18], _ =>
    obtain ⟨k, h0⟩ := (h.at Tryd.underlying33 0 0 1 rfl c3 : Rd enc W base spare held 3 [a0]).int Tryd.underlying3
    simp only [List.drop_zero, List.take_succ_cons, List.take_zero, List.cons.injEq, and_true] at h0
    subst h0
    have hA : Rd enc W base spare held 30 [a1, a2, a3, a4, a5, a6, a7, a8, a9, a10, a11, a12, a13, a14] := h.at Tryd.underlying33 1 1 14 rfl c37
    have hU : Rd enc W base spare held 28 [a6, a7, a8, a9, a10, a11, a12, a13, a14] := hA.at Tryd.underlying30 5 5 9 rfl c35
    have f0 : Rd enc W base spare held 22 [a1] := hA.at Tryd.underlying30 0 0 1 rfl c29
    have f1 : Rd enc W base spare held 9 [a2] := hA.at Tryd.underlying30 1 1 1 rfl c9
    have f2 : Rd enc W base spare held 9 [a3] := hA.at Tryd.underlying30 2 2 1 rfl c9
    have f3 : Rd enc W base spare held 9 [a4] := hA.at Tryd.underlying30 3 3 1 rfl c9
    have f4 : Rd enc W base spare held 23 [a5] := hA.at Tryd.underlying30 4 4 1 rfl c30
    have f5 : Rd enc W base spare held 4 [a6] := hU.at Tryd.underlying28 0 0 1 rfl c4
    have f6 : Rd enc W base spare held 24 [a7] := hU.at Tryd.underlying28 1 1 1 rfl c31
    have f7 : Rd enc W base spare held 9 [a8] := hU.at Tryd.underlying28 2 2 1 rfl c9
    have f8 : Rd enc W base spare held 9 [a9] := hU.at Tryd.underlying28 3 3 1 rfl c9
    have f9 : Rd enc W base spare held 4 [a10] := hU.at Tryd.underlying28 4 4 1 rfl c4
    have f10 : Rd enc W base spare held 22 [a11] := hU.at Tryd.underlying28 5 5 1 rfl c29
    have f11 : Rd enc W base spare held 22 [a12] := hU.at Tryd.underlying28 6 6 1 rfl c29
    have f12 : Rd enc W base spare held 25 [a13] := hU.at Tryd.underlying28 7 7 1 rfl c32
    have f13 : Rd enc W base spare held 26 [a14] := hU.at Tryd.underlying28 8 8 1 rfl c33
    have f14 : Rd enc W base spare held 5 [a15] := h.at Tryd.underlying33 2 15 1 rfl c5
    have f15 : Rd enc W base spare held 5 [a16] := h.at Tryd.underlying33 3 16 1 rfl c5
    have f16 : Rd enc W base spare held 5 [a17] := h.at Tryd.underlying33 4 17 1 rfl c5
    have f17 : Rd enc W base spare held 31 [a18] := h.at Tryd.underlying33 5 18 1 rfl c38
    refine ⟨k, fun i => [a1, a2, a3, a4, a5, a6, a7, a8, a9, a10, a11, a12, a13, a14, a15, a16, a17, a18][i], rfl, ⟨fun i => ?_, ?_, ?_, ?_, ?_⟩⟩
    · match i with
      | ⟨0, _⟩ => exact one_int f0 Tryd.underlying22
      | ⟨1, _⟩ => exact one_str f1 Tryd.underlying9
      | ⟨2, _⟩ => exact one_str f2 Tryd.underlying9
      | ⟨3, _⟩ => exact one_str f3 Tryd.underlying9
      | ⟨4, _⟩ => exact one_slice f4 Tryd.underlying23 (st := 4) (by kernel_rfl) (by omega)
      | ⟨5, _⟩ => exact one_bool f5 Tryd.underlying4
      | ⟨6, _⟩ => exact one_int f6 Tryd.underlying24
      | ⟨7, _⟩ => exact one_str f7 Tryd.underlying9
      | ⟨8, _⟩ => exact one_str f8 Tryd.underlying9
      | ⟨9, _⟩ => exact one_bool f9 Tryd.underlying4
      | ⟨10, _⟩ => exact one_int f10 Tryd.underlying22
      | ⟨11, _⟩ => exact one_int f11 Tryd.underlying22
      | ⟨12, _⟩ => exact one_slice f12 Tryd.underlying25 (st := 3) (by kernel_rfl) (by omega)
      | ⟨13, _⟩ => exact one_slice f13 Tryd.underlying26 (st := 2) (by kernel_rfl) (by omega)
      | ⟨14, _⟩ => exact one_int f14 Tryd.underlying5
      | ⟨15, _⟩ => exact one_int f15 Tryd.underlying5
      | ⟨16, _⟩ => exact one_int f16 Tryd.underlying5
      | ⟨17, _⟩ => exact one_slice f17 Tryd.underlying31 (st := 4) (by kernel_rfl) (by omega)
      | ⟨n + 18, h⟩ => exact absurd h (by omega)
    · exact f4.list Tryd.underlying23 (by kernel_rfl) (by omega) (by decide) (fun es b o h1 h2 h3 => h3.ctx h1 h2)
    · exact f12.list Tryd.underlying25 (by kernel_rfl) (by omega) (by decide) (fun es b o h1 h2 h3 => h3.role h1 h2)
    · exact f13.list Tryd.underlying26 (by kernel_rfl) (by omega) (by decide) (fun es b o h1 h2 h3 => h3.oth h1 h2)
    · exact f17.list Tryd.underlying31 (by kernel_rfl) (by omega) (by decide) (fun es b o h1 h2 h3 => h3.pdv h1 h2)
end
end Go.Proofs.YtnamkcfmbefkfaaDoor

namespace Go.Proofs.YtnamkcfmbefkfaaDoor
open Go Go.Proofs Go.RowKit
instance : Inhabited El := ⟨⟨[], .no⟩⟩
def InnS : Inn → Prop
  | .no => True
  | .tx T => T.length ≤ 1048576
  | .by bs => bs.length ≤ 1048576
structure Sml (D : PdD) : Prop where
  cx : D.cx.length ≤ 1048576 ∧ ∀ p ∈ D.cx, InnS p.inn
  rl : D.rl.length ≤ 1048576 ∧ ∀ p ∈ D.rl, InnS p.inn
  ot : D.ot.length ≤ 1048576 ∧ ∀ p ∈ D.ot, InnS p.inn
  vl : D.vl.length ≤ 1048576 ∧ ∀ p ∈ D.vl, InnS p.inn
theorem RE.weak {W : World} {v : Value} {ps : List El} {st : Nat} {Sh Sh' : El → Prop} (h : RE W v ps st Sh) (hs : ∀ p, Sh p → Sh' p) : RE W v ps st Sh' := by
  obtain ⟨h1, ao, cap, rfl, h2, h3⟩ := h
  exact ⟨h1, ao, cap, rfl, fun p hp => hs p (h2 p hp), h3⟩
theorem RE.sh {W : World} {v : Value} {ps : List El} {st : Nat} {Sh : El → Prop} (h : RE W v ps st Sh) : ∀ p ∈ ps, Sh p := by
  obtain ⟨h1, ao, cap, rfl, h2, h3⟩ := h
  exact h2
theorem rd_sliceX {H : Type} {enc : TypeId × Value → H} {W : World} {base : Nat} {spare : Nat → Bool} {held : Bool} {t e : TypeId} {m : Nat} {cs : List Value} (h : Rd enc W base spare held t cs) (ht : Tryd.prog.underlying t = some (.slice e)) (hm : Tryd.prog.cellsOf e = m) (hm0 : 0 < m) :
    ∃ ao n cap, cs = [.slice ao n cap] ∧ NoCap (.slice ao n cap) ∧ n ≤ 1048576 ∧ n ≤ cap ∧ (0 < n → ∃ b off, ao = some ⟨b, off, none⟩ ∧ ∀ i, i < n → ∃ es : List Value, es.length = m ∧ W.rangeAt b (off + i * m) es ∧ Rd enc W base spare held e es) := by
  obtain ⟨ao, n, cap, h1, h2, h3, h4⟩ := h.slice ht hm hm0
  refine ⟨ao, n, cap, h1, ?_, h2, h3, h4⟩
  obtain ⟨fu, d, p, hd, _⟩ := h
  rcases DataW.trod_slice ht hd with ⟨h5, _⟩ | ⟨a, len, cap2, elems, rest, n2, _, h5, _⟩
  · rw [h1] at h5
    obtain ⟨rfl, rfl, rfl⟩ : ao = none ∧ n = 0 ∧ cap = 0 := by simpa using h5
    intro n' cap' he
    obtain ⟨rfl, rfl⟩ : 0 = n' ∧ 0 = cap' := by simpa using he
    exact ⟨rfl, rfl⟩
  · rw [h1] at h5
    obtain ⟨rfl, rfl, rfl⟩ : ao = some a ∧ n = len ∧ cap = cap2 := by simpa using h5
    intro n' cap' he
    simp at he
theorem rd_bytesX {H : Type} {enc : TypeId × Value → H} {W : World} {base : Nat} {spare : Nat → Bool} {held : Bool} {cs : List Value} (h : Rd enc W base spare held 55 cs) : ∃ v bs, cs = [v] ∧ V W v bs ∧ bs.length ≤ 1048576 ∧ NoCap v := by
  obtain ⟨v, bs, h1, h2, h3⟩ := h.bytes
  obtain ⟨ao, n, cap, h4, h5, _⟩ := rd_sliceX h Tryd.underlying55 (m := 1) (by kernel_rfl) (by omega)
  refine ⟨v, bs, h1, h2, h3, ?_⟩
  rw [h1] at h4
  obtain rfl : v = .slice ao n cap := by simpa using h4
  exact h5
theorem rd_ctxX {H : Type} {enc : TypeId × Value → H} {W : World} {base : Nat} {spare : Nat → Bool} {held : Bool} {cs : List Value} (h : Rd enc W base spare held 51 cs) (hl : cs.length = 4) : ∃ p, (ShC p ∧ InnS p.inn) ∧ ∃ vs, cs = p.fl ++ vs ∧ InnR W p.inn vs := by
  match cs, hl with
  | [a0, a1, a2, a3], _ =>
    obtain ⟨x, _, h0⟩ := (h.at Tryd.underlying51 0 0 1 rfl c5 : Rd enc W base spare held 5 [a0]).u8
    obtain ⟨y, _, h1⟩ := (h.at Tryd.underlying51 1 1 1 rfl c5 : Rd enc W base spare held 5 [a1]).u8
    obtain ⟨s, h2⟩ := (h.at Tryd.underlying51 2 2 1 rfl c9 : Rd enc W base spare held 9 [a2]).str Tryd.underlying9
    obtain ⟨ao, m, cap, h3, hnc, hb, _, hel⟩ := rd_sliceX (h.at Tryd.underlying51 3 3 1 rfl c71 : Rd enc W base spare held 34 [a3]) Tryd.underlying34 (m := 1) (by kernel_rfl) (by omega)
    simp only [List.drop_succ_cons, List.drop_zero, List.take_succ_cons, List.take_zero, List.cons.injEq, and_true] at h0 h1 h2 h3
    subst h0 h1 h2 h3
    by_cases hm : 0 < m
    · obtain ⟨b2, off2, rfl, he⟩ := hel hm
      obtain ⟨T, hT1, hT2⟩ := pick_list (n := m) (P := fun k (s : ByteArray) => W.cell? ⟨b2, off2 + k, none⟩ = some (.string s)) (fun k hk => by
        obtain ⟨es, _, hr2, hd⟩ := he k hk
        obtain ⟨z, rfl⟩ := hd.str Tryd.underlying9
        exact ⟨z, by have := hr2 0 _ rfl; simpa using this⟩)
      subst hT1
      exact ⟨_, ⟨⟨x, y, s, T, rfl⟩, hb⟩, [_], rfl, _, rfl, _, cap, rfl, fun _ => ⟨b2, off2, rfl, hT2⟩, by omega, hnc⟩
    · obtain rfl : m = 0 := by omega
      exact ⟨_, ⟨⟨x, y, s, [], rfl⟩, by simp [InnS]⟩, [_], rfl, _, rfl, ao, cap, rfl, fun h => absurd h (by simp), by simp, hnc⟩
theorem rd_roleX {H : Type} {enc : TypeId × Value → H} {W : World} {base : Nat} {spare : Nat → Bool} {held : Bool} {cs : List Value} (h : Rd enc W base spare held 54 cs) (hl : cs.length = 3) : ∃ p, (ShR p ∧ InnS p.inn) ∧ ∃ vs, cs = p.fl ++ vs ∧ InnR W p.inn vs := by
  match cs, hl with
  | [a0, a1, a2], _ =>
    obtain ⟨s, h0⟩ := (h.at Tryd.underlying54 0 0 1 rfl c9 : Rd enc W base spare held 9 [a0]).str Tryd.underlying9
    obtain ⟨x, _, h1⟩ := (h.at Tryd.underlying54 1 1 1 rfl c5 : Rd enc W base spare held 5 [a1]).u8
    obtain ⟨y, _, h2⟩ := (h.at Tryd.underlying54 2 2 1 rfl c5 : Rd enc W base spare held 5 [a2]).u8
    simp only [List.drop_succ_cons, List.drop_zero, List.take_succ_cons, List.take_zero, List.cons.injEq, and_true] at h0 h1 h2
    subst h0 h1 h2
    exact ⟨_, ⟨⟨s, x, y, rfl⟩, trivial⟩, [], rfl, rfl⟩
theorem rd_othX {H : Type} {enc : TypeId × Value → H} {W : World} {base : Nat} {spare : Nat → Bool} {held : Bool} {cs : List Value} (h : Rd enc W base spare held 57 cs) (hl : cs.length = 2) : ∃ p, (ShO p ∧ InnS p.inn) ∧ ∃ vs, cs = p.fl ++ vs ∧ InnR W p.inn vs := by
  match cs, hl with
  | [a0, a1], _ =>
    obtain ⟨x, _, h0⟩ := (h.at Tryd.underlying57 0 0 1 rfl c5 : Rd enc W base spare held 5 [a0]).u8
    obtain ⟨v, bs, h1, hV, hb, hnc⟩ := rd_bytesX (h.at Tryd.underlying57 1 1 1 rfl c102 : Rd enc W base spare held 55 [a1])
    simp only [List.drop_succ_cons, List.drop_zero, List.take_succ_cons, List.take_zero, List.cons.injEq, and_true] at h0 h1
    subst h0 h1
    exact ⟨_, ⟨⟨x, bs, rfl⟩, hb⟩, [_], rfl, _, rfl, hV, Nat.le_trans hb (by decide), hnc⟩
theorem rd_pdvX {H : Type} {enc : TypeId × Value → H} {W : World} {base : Nat} {spare : Nat → Bool} {held : Bool} {cs : List Value} (h : Rd enc W base spare held 60 cs) (hl : cs.length = 4) : ∃ p, (ShV p ∧ InnS p.inn) ∧ ∃ vs, cs = p.fl ++ vs ∧ InnR W p.inn vs := by
  match cs, hl with
  | [a0, a1, a2, a3], _ =>
    obtain ⟨x, _, h0⟩ := (h.at Tryd.underlying60 0 0 1 rfl c5 : Rd enc W base spare held 5 [a0]).u8
    obtain ⟨y, h1⟩ := (h.at Tryd.underlying60 1 1 1 rfl c4 : Rd enc W base spare held 4 [a1]).bool Tryd.underlying4
    obtain ⟨z, h2⟩ := (h.at Tryd.underlying60 2 2 1 rfl c4 : Rd enc W base spare held 4 [a2]).bool Tryd.underlying4
    obtain ⟨v, bs, h3, hV, hb, hnc⟩ := rd_bytesX (h.at Tryd.underlying60 3 3 1 rfl c102 : Rd enc W base spare held 55 [a3])
    simp only [List.drop_succ_cons, List.drop_zero, List.take_succ_cons, List.take_zero, List.cons.injEq, and_true] at h0 h1 h2 h3
    subst h0 h1 h2 h3
    exact ⟨_, ⟨⟨x, y, z, bs, rfl⟩, hb⟩, [_], rfl, _, rfl, hV, Nat.le_trans hb (by decide), hnc⟩
theorem rd_listX {H : Type} {enc : TypeId × Value → H} {W : World} {base : Nat} {spare : Nat → Bool} {held : Bool} {t e : TypeId} {st bytes : Nat} {Sh : El → Prop} {a : Value} (h : Rd enc W base spare held t [a]) (ht : Tryd.prog.underlying t = some (.slice e)) (hc : Tryd.prog.cellsOf e = st) (h0 : 0 < st) (hb : bytes ≤ 1048576)
    (hE : ∀ es, es.length = st → Rd enc W base spare held e es → ∃ p, Sh p ∧ ∃ vs, es = p.fl ++ vs ∧ InnR W p.inn vs) : ∃ ps, (RE W a ps st Sh ∧ Fits ps.length bytes) ∧ ps.length ≤ 1048576 := by
  obtain ⟨ao, n, cap, h1, hnc, hw, _, hel⟩ := rd_sliceX h ht hc h0
  obtain rfl : a = .slice ao n cap := by simpa using h1
  by_cases hn : 0 < n
  · obtain ⟨b, off, rfl, he⟩ := hel hn
    obtain ⟨ps, hp1, hp2⟩ := pick_list (n := n) (P := fun k (p : El) => Sh p ∧ ∃ vs, W.rangeAt b (off + k * st) (p.fl ++ vs) ∧ InnR W p.inn vs) (fun k hk => by
      obtain ⟨es, g1, g2, g3⟩ := he k hk
      obtain ⟨p, q1, vs, rfl, q2⟩ := hE es g1 g3
      exact ⟨p, q1, vs, g2, q2⟩)
    subst hp1
    refine ⟨ps, ⟨⟨hnc, _, cap, rfl, fun p hp => ?_, fun _ => ⟨b, off, rfl, fun k hk => ?_⟩⟩, Nat.le_trans (Nat.mul_le_mul hw hb) (by decide)⟩, hw⟩
    · obtain ⟨i, hi, rfl⟩ := List.mem_iff_getElem.1 hp
      exact (hp2 i hi).1
    · obtain ⟨_, vs, g1, g2⟩ := hp2 k hk
      exact ⟨vs, fun j u hu => g1 j u hu, g2⟩
  · obtain rfl : n = 0 := by omega
    exact ⟨[], ⟨⟨hnc, ao, cap, rfl, fun p hp => by simp at hp, fun h => absurd h (by simp)⟩, fits0 _⟩, by simp⟩
set_option maxRecDepth 100000 in
theorem rd_pduX {H : Type} {enc : TypeId × Value → H} {W : World} {base : Nat} {spare : Nat → Bool} {held : Bool} {cs : List Value} (h : Rd enc W base spare held 33 cs) (hl : cs.length = 19) : ∃ k c D, cs = (Pd k c).toList ∧ RX W c D ∧ (∃ s : Nat, c 15 = .int .u8 (s : Int)) ∧ Sml D := by
  obtain ⟨k, c, h1, hrp⟩ := h.pdu hl
  subst h1
  have hA : Rd enc W base spare held 30 [c 0, c 1, c 2, c 3, c 4, c 5, c 6, c 7, c 8, c 9, c 10, c 11, c 12, c 13] := h.at Tryd.underlying33 1 1 14 rfl c37
  have hU : Rd enc W base spare held 28 [c 5, c 6, c 7, c 8, c 9, c 10, c 11, c 12, c 13] := hA.at Tryd.underlying30 5 5 9 rfl c35
  have f4 : Rd enc W base spare held 23 [c 4] := hA.at Tryd.underlying30 4 4 1 rfl c30
  have f12 : Rd enc W base spare held 25 [c 12] := hU.at Tryd.underlying28 7 7 1 rfl c32
  have f13 : Rd enc W base spare held 26 [c 13] := hU.at Tryd.underlying28 8 8 1 rfl c33
  have f15 : Rd enc W base spare held 5 [c 15] := h.at Tryd.underlying33 3 16 1 rfl c5
  have f17 : Rd enc W base spare held 31 [c 17] := h.at Tryd.underlying33 5 18 1 rfl c38
  obtain ⟨A, ⟨a1, a2⟩, a3⟩ := rd_listX f4 Tryd.underlying23 (by kernel_rfl) (by omega) (bytes := 48) (by decide) (Sh := fun p => ShC p ∧ InnS p.inn) (fun es h1 h2 => rd_ctxX h2 h1)
  obtain ⟨B, ⟨b1, b2⟩, b3⟩ := rd_listX f12 Tryd.underlying25 (by kernel_rfl) (by omega) (bytes := 24) (by decide) (Sh := fun p => ShR p ∧ InnS p.inn) (fun es h1 h2 => rd_roleX h2 h1)
  obtain ⟨C, ⟨c1, c2⟩, c3⟩ := rd_listX f13 Tryd.underlying26 (by kernel_rfl) (by omega) (bytes := 32) (by decide) (Sh := fun p => ShO p ∧ InnS p.inn) (fun es h1 h2 => rd_othX h2 h1)
  obtain ⟨D, ⟨d1, d2⟩, d3⟩ := rd_listX f17 Tryd.underlying31 (by kernel_rfl) (by omega) (bytes := 32) (by decide) (Sh := fun p => ShV p ∧ InnS p.inn) (fun es h1 h2 => rd_pdvX h2 h1)
  obtain ⟨s, _, hs⟩ := f15.u8
  exact ⟨k, c, ⟨A, B, C, D⟩, rfl, ⟨hrp.one, ⟨a1.weak fun _ h => h.1, a2⟩, ⟨b1.weak fun _ h => h.1, b2⟩, ⟨c1.weak fun _ h => h.1, c2⟩, ⟨d1.weak fun _ h => h.1, d2⟩⟩, ⟨s, by simpa using hs⟩, ⟨a3, fun p hp => (a1.sh p hp).2⟩, ⟨b3, fun p hp => (b1.sh p hp).2⟩, ⟨c3, fun p hp => (c1.sh p hp).2⟩, ⟨d3, fun p hp => (d1.sh p hp).2⟩⟩
end Go.Proofs.YtnamkcfmbefkfaaDoor
