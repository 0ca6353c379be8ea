import Derived.Test.YtiieikdbhpflgaaDoorXt
import Derived.Test.YtiieikdbhpflgaaDoorW
/-
  DERIVED. Events that came in, read exactly; the law for any timer.
-/
namespace Go.Proofs.YtiieikdbhpflgaaDoor
open Go Go.Proofs Go.RowKit

set_option maxRecDepth 100000 in
theorem timer_out (w : World) (a : Int) (v : Value) (h : a < 1 ∨ 1000 < a) :
    Calls Tryd.prog 5 #[.int .i64 a, v] w fun x w' => x = .returned (.bool true) ∧ Below w.heap.size w w' := by
  have hnw := new_no w a h
  rcases h with h | h
  · go_enter Tryd.func5, Tryd.ntmps5
    go_wp2_with (go_at_call 12; refine hnw.mono ?_; rintro x W1 ⟨v1, rfl, hb1, hp1⟩; obtain ⟨g, hg, _⟩ := hp1; subst hg)
    go_ret
    exact ⟨rfl, hb1⟩
  · go_enter Tryd.func5, Tryd.ntmps5
    go_wp2_with (go_at_call 12; refine hnw.mono ?_; rintro x W1 ⟨v1, rfl, hb1, hp1⟩; obtain ⟨g, hg, _⟩ := hp1; subst hg)
    go_ret
    exact ⟨rfl, hb1⟩

theorem timer_any (w : World) (a : Int) (v : Value) (n : Nat) (hn : n ≤ 140737488351232) (hv : EvsY w v n) (hT : Tb w) (hN : Nd w) :
    Calls Tryd.prog 5 #[.int .i64 a, v] w fun x w' => x = .returned (.bool true) ∧ Below w.heap.size w w' := by
  by_cases h : a < 1 ∨ 1000 < a
  · exact timer_out w a v h
  · exact timer_in w a v n (by omega) (by omega) hn hv hT hN

instance : Inhabited El := ⟨⟨[], .no⟩⟩
/-- A slice, element by element; nil is nil. -/
theorem rd_sliceX {H : Type} {enc : TypeId × Value → H} {W : World} {base : Nat} {spare : Nat → Bool} {held : Bool} {t e : TypeId} {m : Nat} {cs : List Value} (h : Rd enc W base spare held t cs) (ht : Tryd.prog.underlying t = some (.slice e)) (hm : Tryd.prog.cellsOf e = m) (hm0 : 0 < m) :
    ∃ ao n cap, cs = [.slice ao n cap] ∧ NoCap (.slice ao n cap) ∧ n * Tryd.prog.bytesOf e ≤ reachBytes ∧ n ≤ cap ∧ (0 < n → ∃ b off, ao = some ⟨b, off, none⟩ ∧ ∀ i, i < n → ∃ es : List Value, es.length = m ∧ W.rangeAt b (off + i * m) es ∧ Rd enc W base spare held e es) := by
  obtain ⟨ao, n, cap, h1, h2, h3, h4⟩ := h.slice ht hm hm0
  refine ⟨ao, n, cap, h1, ?_, h2, h3, h4⟩
  obtain ⟨fu, d, p, hd, _⟩ := h
  rcases DataW.trod_slice ht hd with ⟨h5, _⟩ | ⟨a, len, cap2, elems, rest, n2, _, h5, _⟩
  · rw [h1] at h5
    obtain ⟨rfl, rfl, rfl⟩ : ao = none ∧ n = 0 ∧ cap = 0 := by simpa using h5
    intro n' cap' he
    obtain ⟨rfl, rfl⟩ : 0 = n' ∧ 0 = cap' := by simpa using he
    exact ⟨rfl, rfl⟩
  · rw [h1] at h5
    obtain ⟨rfl, rfl, rfl⟩ : ao = some a ∧ n = len ∧ cap = cap2 := by simpa using h5
    intro n' cap' he
    simp at he
theorem rd_bytesX {H : Type} {enc : TypeId × Value → H} {W : World} {base : Nat} {spare : Nat → Bool} {held : Bool} {cs : List Value} (h : Rd enc W base spare held 102 cs) : ∃ v bs, cs = [v] ∧ V W v bs ∧ bs.length ≤ 140737488351232 ∧ NoCap v := by
  obtain ⟨v, bs, h1, h2, h3⟩ := h.bytes
  obtain ⟨ao, n, cap, h4, h5, _⟩ := rd_sliceX h Tryd.underlying102 (m := 1) (by kernel_rfl) (by omega)
  refine ⟨v, bs, h1, h2, h3, ?_⟩
  rw [h1] at h4
  obtain rfl : v = .slice ao n cap := by simpa using h4
  exact h5
theorem rd_ctxX {H : Type} {enc : TypeId × Value → H} {W : World} {base : Nat} {spare : Nat → Bool} {held : Bool} {cs : List Value} (h : Rd enc W base spare held 88 cs) (hl : cs.length = 4) : ∃ p, ShC p ∧ ∃ vs, cs = p.fl ++ vs ∧ InnR W p.inn vs := by
  match cs, hl with
  | [a0, a1, a2, a3], _ =>
    obtain ⟨x, _, h0⟩ := (h.at Tryd.underlying88 0 0 1 rfl c5 : Rd enc W base spare held 5 [a0]).u8
    obtain ⟨y, _, h1⟩ := (h.at Tryd.underlying88 1 1 1 rfl c5 : Rd enc W base spare held 5 [a1]).u8
    obtain ⟨s, h2⟩ := (h.at Tryd.underlying88 2 2 1 rfl c9 : Rd enc W base spare held 9 [a2]).str Tryd.underlying9
    obtain ⟨ao, m, cap, h3, hnc, hb, _, hel⟩ := rd_sliceX (h.at Tryd.underlying88 3 3 1 rfl c71 : Rd enc W base spare held 71 [a3]) Tryd.underlying71 (m := 1) (by kernel_rfl) (by omega)
    simp only [List.drop_succ_cons, List.drop_zero, List.take_succ_cons, List.take_zero, List.cons.injEq, and_true] at h0 h1 h2 h3
    subst h0 h1 h2 h3
    rw [show Tryd.prog.bytesOf 9 = 16 by kernel_rfl] at hb
    by_cases hm : 0 < m
    · obtain ⟨b2, off2, rfl, he⟩ := hel hm
      obtain ⟨T, hT1, hT2⟩ := pick_list (n := m) (P := fun k (s : ByteArray) => W.cell? ⟨b2, off2 + k, none⟩ = some (.string s)) (fun k hk => by
        obtain ⟨es, _, hr2, hd⟩ := he k hk
        obtain ⟨z, rfl⟩ := hd.str Tryd.underlying9
        exact ⟨z, by have := hr2 0 _ rfl; simpa using this⟩)
      subst hT1
      exact ⟨_, ⟨x, y, s, T, rfl⟩, [_], rfl, _, rfl, _, cap, rfl, fun _ => ⟨b2, off2, rfl, hT2⟩, hb, hnc⟩
    · obtain rfl : m = 0 := by omega
      exact ⟨_, ⟨x, y, s, [], rfl⟩, [_], rfl, _, rfl, ao, cap, rfl, fun h => absurd h (by simp), by simp, hnc⟩
theorem rd_roleX {H : Type} {enc : TypeId × Value → H} {W : World} {base : Nat} {spare : Nat → Bool} {held : Bool} {cs : List Value} (h : Rd enc W base spare held 113 cs) (hl : cs.length = 3) : ∃ p, ShR p ∧ ∃ vs, cs = p.fl ++ vs ∧ InnR W p.inn vs := by
  match cs, hl with
  | [a0, a1, a2], _ =>
    obtain ⟨s, h0⟩ := (h.at Tryd.underlying113 0 0 1 rfl c9 : Rd enc W base spare held 9 [a0]).str Tryd.underlying9
    obtain ⟨x, _, h1⟩ := (h.at Tryd.underlying113 1 1 1 rfl c5 : Rd enc W base spare held 5 [a1]).u8
    obtain ⟨y, _, h2⟩ := (h.at Tryd.underlying113 2 2 1 rfl c5 : Rd enc W base spare held 5 [a2]).u8
    simp only [List.drop_succ_cons, List.drop_zero, List.take_succ_cons, List.take_zero, List.cons.injEq, and_true] at h0 h1 h2
    subst h0 h1 h2
    exact ⟨_, ⟨s, x, y, rfl⟩, [], rfl, rfl⟩
theorem rd_othX {H : Type} {enc : TypeId × Value → H} {W : World} {base : Nat} {spare : Nat → Bool} {held : Bool} {cs : List Value} (h : Rd enc W base spare held 115 cs) (hl : cs.length = 2) : ∃ p, ShO p ∧ ∃ vs, cs = p.fl ++ vs ∧ InnR W p.inn vs := by
  match cs, hl with
  | [a0, a1], _ =>
    obtain ⟨x, _, h0⟩ := (h.at Tryd.underlying115 0 0 1 rfl c5 : Rd enc W base spare held 5 [a0]).u8
    obtain ⟨v, bs, h1, hV, hb, hnc⟩ := rd_bytesX (h.at Tryd.underlying115 1 1 1 rfl c102 : Rd enc W base spare held 102 [a1])
    simp only [List.drop_succ_cons, List.drop_zero, List.take_succ_cons, List.take_zero, List.cons.injEq, and_true] at h0 h1
    subst h0 h1
    exact ⟨_, ⟨x, bs, rfl⟩, [_], rfl, _, rfl, hV, hb, hnc⟩
theorem rd_pdvX {H : Type} {enc : TypeId × Value → H} {W : World} {base : Nat} {spare : Nat → Bool} {held : Bool} {cs : List Value} (h : Rd enc W base spare held 105 cs) (hl : cs.length = 4) : ∃ p, ShV p ∧ ∃ vs, cs = p.fl ++ vs ∧ InnR W p.inn vs := by
  match cs, hl with
  | [a0, a1, a2, a3], _ =>
    obtain ⟨x, _, h0⟩ := (h.at Tryd.underlying105 0 0 1 rfl c5 : Rd enc W base spare held 5 [a0]).u8
    obtain ⟨y, h1⟩ := (h.at Tryd.underlying105 1 1 1 rfl c4 : Rd enc W base spare held 4 [a1]).bool Tryd.underlying4
    obtain ⟨z, h2⟩ := (h.at Tryd.underlying105 2 2 1 rfl c4 : Rd enc W base spare held 4 [a2]).bool Tryd.underlying4
    obtain ⟨v, bs, h3, hV, hb, hnc⟩ := rd_bytesX (h.at Tryd.underlying105 3 3 1 rfl c102 : Rd enc W base spare held 102 [a3])
    simp only [List.drop_succ_cons, List.drop_zero, List.take_succ_cons, List.take_zero, List.cons.injEq, and_true] at h0 h1 h2 h3
    subst h0 h1 h2 h3
    exact ⟨_, ⟨x, y, z, bs, rfl⟩, [_], rfl, _, rfl, hV, hb, hnc⟩
theorem rd_listX {H : Type} {enc : TypeId × Value → H} {W : World} {base : Nat} {spare : Nat → Bool} {held : Bool} {t e : TypeId} {st bytes : Nat} {Sh : El → Prop} {a : Value} (h : Rd enc W base spare held t [a]) (ht : Tryd.prog.underlying t = some (.slice e)) (hc : Tryd.prog.cellsOf e = st) (h0 : 0 < st) (hb : Tryd.prog.bytesOf e = bytes)
    (hE : ∀ es, es.length = st → Rd enc W base spare held e es → ∃ p, Sh p ∧ ∃ vs, es = p.fl ++ vs ∧ InnR W p.inn vs) : ∃ ps, RE W a ps st Sh ∧ Fits ps.length bytes := by
  obtain ⟨ao, n, cap, h1, hnc, hw, _, hel⟩ := rd_sliceX h ht hc h0
  obtain rfl : a = .slice ao n cap := by simpa using h1
  rw [hb] at hw
  by_cases hn : 0 < n
  · obtain ⟨b, off, rfl, he⟩ := hel hn
    obtain ⟨ps, hp1, hp2⟩ := pick_list (n := n) (P := fun k (p : El) => Sh p ∧ ∃ vs, W.rangeAt b (off + k * st) (p.fl ++ vs) ∧ InnR W p.inn vs) (fun k hk => by
      obtain ⟨es, g1, g2, g3⟩ := he k hk
      obtain ⟨p, q1, vs, rfl, q2⟩ := hE es g1 g3
      exact ⟨p, q1, vs, g2, q2⟩)
    subst hp1
    refine ⟨ps, ⟨hnc, _, cap, rfl, fun p hp => ?_, fun _ => ⟨b, off, rfl, fun k hk => ?_⟩⟩, hw⟩
    · obtain ⟨i, hi, rfl⟩ := List.mem_iff_getElem.1 hp
      exact (hp2 i hi).1
    · obtain ⟨_, vs, g1, g2⟩ := hp2 k hk
      exact ⟨vs, fun j u hu => g1 j u hu, g2⟩
  · obtain rfl : n = 0 := by omega
    exact ⟨[], ⟨hnc, ao, cap, rfl, fun p hp => by simp at hp, fun h => absurd h (by simp)⟩, fits0 _⟩
set_option maxRecDepth 100000 in
theorem rd_pduX {H : Type} {enc : TypeId × Value → H} {W : World} {base : Nat} {spare : Nat → Bool} {held : Bool} {cs : List Value} (h : Rd enc W base spare held 40 cs) (hl : cs.length = 19) : ∃ k c D, cs = (Pd k c).toList ∧ RX W c D ∧ ∃ s : Nat, c 15 = .int .u8 (s : Int) := by
  obtain ⟨k, c, h1, hrp⟩ := h.pdu hl
  subst h1
  have hA : Rd enc W base spare held 37 [c 0, c 1, c 2, c 3, c 4, c 5, c 6, c 7, c 8, c 9, c 10, c 11, c 12, c 13] := h.at Tryd.underlying40 1 1 14 rfl c37
  have hU : Rd enc W base spare held 35 [c 5, c 6, c 7, c 8, c 9, c 10, c 11, c 12, c 13] := hA.at Tryd.underlying37 5 5 9 rfl c35
  have f4 : Rd enc W base spare held 30 [c 4] := hA.at Tryd.underlying37 4 4 1 rfl c30
  have f12 : Rd enc W base spare held 32 [c 12] := hU.at Tryd.underlying35 7 7 1 rfl c32
  have f13 : Rd enc W base spare held 33 [c 13] := hU.at Tryd.underlying35 8 8 1 rfl c33
  have f15 : Rd enc W base spare held 5 [c 15] := h.at Tryd.underlying40 3 16 1 rfl c5
  have f17 : Rd enc W base spare held 38 [c 17] := h.at Tryd.underlying40 5 18 1 rfl c38
  obtain ⟨A, a1⟩ := rd_listX f4 Tryd.underlying30 (by kernel_rfl) (by omega) (by kernel_rfl) (Sh := ShC) (fun es h1 h2 => rd_ctxX h2 h1)
  obtain ⟨B, b1⟩ := rd_listX f12 Tryd.underlying32 (by kernel_rfl) (by omega) (by kernel_rfl) (Sh := ShR) (fun es h1 h2 => rd_roleX h2 h1)
  obtain ⟨C, c1⟩ := rd_listX f13 Tryd.underlying33 (by kernel_rfl) (by omega) (by kernel_rfl) (Sh := ShO) (fun es h1 h2 => rd_othX h2 h1)
  obtain ⟨D, d1⟩ := rd_listX f17 Tryd.underlying38 (by kernel_rfl) (by omega) (by kernel_rfl) (Sh := ShV) (fun es h1 h2 => rd_pdvX h2 h1)
  obtain ⟨s, _, hs⟩ := f15.u8
  exact ⟨k, c, ⟨A, B, C, D⟩, rfl, ⟨hrp.one, a1, b1, c1, d1⟩, s, by simpa using hs⟩
theorem rd_evX {H : Type} {enc : TypeId × Value → H} {W : World} {base : Nat} {spare : Nat → Bool} {held : Bool} {cs : List Value} (h : Rd enc W base spare held 50 cs) (hl : cs.length = 41) : ∃ d, EvY W cs.toArray d := by
  obtain ⟨kd, k1, c1, k2, c2, hev⟩ := h.ev hl
  have h1 := h.at Tryd.underlying50 1 1 19 rfl c40
  have h2 := h.at Tryd.underlying50 2 20 1 rfl c4
  have h3 := h.at Tryd.underlying50 3 21 19 rfl c40
  have h4 := h.at Tryd.underlying50 4 40 1 rfl c5
  obtain ⟨k1', c1', D1, e1, r1, s, hs⟩ := rd_pduX h1 (by simp [hl])
  obtain ⟨bd, e2⟩ := h2.bool Tryd.underlying4
  obtain ⟨k2', c2', D2, e3, r2, _⟩ := rd_pduX h3 (by simp [hl])
  obtain ⟨rs, _, e4⟩ := h4.u8
  have g : ∀ (o n j : Nat), j < n → ((cs.drop o).take n)[j]? = cs[o + j]? := fun o n j hj => by rw [List.getElem?_take, if_pos hj, List.getElem?_drop]
  have p1 : ∀ j, j < 19 → (Pd k1' c1').toList[j]? = cs[1 + j]? := fun j hj => by rw [← e1]; exact g 1 19 j hj
  have p2 : cs[20]? = some (.bool bd) := by have := g 20 1 0 (by omega); rw [e2] at this; simpa using this.symm
  have p3 : ∀ j, j < 19 → (Pd k2' c2').toList[j]? = cs[21 + j]? := fun j hj => by rw [← e3]; exact g 21 19 j hj
  have p4 : cs[40]? = some (.int .u8 (rs : Int)) := by have := g 40 1 0 (by omega); rw [e4] at this; simpa using this.symm
  refine ⟨⟨kd, ⟨k1', c1', D1⟩, bd, ⟨k2', c2', D2⟩, rs, s⟩, ⟨hev.sz, hev.kd, hev.one, fun j v hv => ?_, fun j v hv => ?_, r1, r2⟩, by simpa using p2, by simpa using p4, hs⟩
  · have hj : j < 19 := (List.getElem?_eq_some_iff.1 hv).1
    rw [p1 j hj] at hv
    simpa using hv
  · have hj : j < 19 := (List.getElem?_eq_some_iff.1 hv).1
    rw [p3 j hj] at hv
    simpa using hv
theorem rd_evsX {H : Type} {enc : TypeId × Value → H} {W : World} {base : Nat} {spare : Nat → Bool} {held : Bool} {v : Value} (h : Rd enc W base spare held 25 [v]) : ∃ n, n ≤ 140737488351232 ∧ EvsY W v n := by
  obtain ⟨ao, n, cap, h1, hw, _, hel⟩ := h.slice Tryd.underlying25 (m := 41) (by kernel_rfl) (by omega)
  simp only [List.cons.injEq, and_true] at h1
  subst h1
  have hb : 1 ≤ Tryd.prog.bytesOf 50 := of_decide_eq_true (by kernel_rfl)
  refine ⟨n, Nat.le_trans (Nat.le_mul_of_pos_right n hb) hw, ao, cap, rfl, fun hn => ?_⟩
  obtain ⟨b, off, rfl, he⟩ := hel hn
  refine ⟨b, off, rfl, fun i hi => ?_⟩
  obtain ⟨es, h1, h2, h3⟩ := he i hi
  obtain ⟨d, hev⟩ := rd_evX h3 h1
  exact ⟨es.toArray, d, by simpa using h2, hev⟩
end Go.Proofs.YtiieikdbhpflgaaDoor
