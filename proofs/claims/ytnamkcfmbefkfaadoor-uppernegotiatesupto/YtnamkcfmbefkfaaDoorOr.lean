import Derived.Test.YtnamkcfmbefkfaaDoorOq
/-
  DERIVED. A request and a configuration that came in.
-/
namespace Go.Proofs.YtnamkcfmbefkfaaDoor
open Go Go.Proofs Go.RowKit

theorem Rd.strB {H : Type} {enc : TypeId × Value → H} {W : World} {base : Nat} {spare : Nat → Bool} {held : Bool} {cs : List Value} (h : Rd enc W base spare held 9 cs) : ∃ z : ByteArray, z.size ≤ 1048576 ∧ cs = [.string z] := by
  obtain ⟨f, d, p, h, hw⟩ := h
  obtain ⟨z, hz, hx, -⟩ := DataW.trod_string Tryd.underlying9 h
  have hd : d = .lit (.string z.data.toList) := congrArg Prod.fst hx
  subst hd
  simp only [Rows.uptoBulk, Array.length_toList] at hw
  exact ⟨z, by show z.data.size ≤ _; omega, hz⟩
theorem Rd.u16 {H : Type} {enc : TypeId × Value → H} {W : World} {base : Nat} {spare : Nat → Bool} {held : Bool} {cs : List Value} (h : Rd enc W base spare held 22 cs) : ∃ z : Nat, z < 65536 ∧ cs = [.int .u16 (z : Int)] := by
  obtain ⟨f, d, p, h, _⟩ := h
  obtain ⟨z, hz, _, hwf⟩ := DataW.trod_int Tryd.underlying22 h
  simp only [Lit.wf, Bool.and_eq_true, decide_eq_true_eq, show IntKind.u16.min = 0 from rfl, show IntKind.u16.max = 65535 from rfl] at hwf
  exact ⟨z.toNat, by omega, by rw [hz, Int.toNat_of_nonneg (by omega)]⟩
theorem Rd.u32 {H : Type} {enc : TypeId × Value → H} {W : World} {base : Nat} {spare : Nat → Bool} {held : Bool} {cs : List Value} (h : Rd enc W base spare held 24 cs) : ∃ z : Int, (0 ≤ z ∧ z ≤ 4294967295) ∧ cs = [.int .u32 z] := by
  obtain ⟨f, d, p, h, _⟩ := h
  obtain ⟨z, hz, _, hwf⟩ := DataW.trod_int Tryd.underlying24 h
  simp only [Lit.wf, Bool.and_eq_true, decide_eq_true_eq, show IntKind.u32.min = 0 from rfl, show IntKind.u32.max = 4294967295 from rfl] at hwf
  exact ⟨z, by omega, hz⟩
/-- A request. -/
theorem rd_rq {H : Type} {enc : TypeId × Value → H} {W : World} {base : Nat} {spare : Nat → Bool} {held : Bool} {k : Int} {c : Fin 18 → Value} (h : Rd enc W base spare held 33 (Pd k c).toList) (h1 : ∀ i, (c i).oneCell' = true) : ∃ r : RqD, RqV k c r ∧ (r.called.size ≤ 140737488351232 ∧ r.calling.size ≤ 140737488351232) ∧ (0 ≤ r.m ∧ r.m ≤ 4294967295) := by
  have hA : Rd enc W base spare held 30 [c 0, c 1, c 2, c 3, c 4, c 5, c 6, c 7, c 8, c 9, c 10, c 11, c 12, c 13] := h.at Tryd.underlying33 1 1 14 rfl c37
  have hU : Rd enc W base spare held 28 [c 5, c 6, c 7, c 8, c 9, c 10, c 11, c 12, c 13] := hA.at Tryd.underlying30 5 5 9 rfl c35
  have f0 : Rd enc W base spare held 22 [c 0] := hA.at Tryd.underlying30 0 0 1 rfl c29
  have f1 : Rd enc W base spare held 9 [c 1] := hA.at Tryd.underlying30 1 1 1 rfl c9
  have f2 : Rd enc W base spare held 9 [c 2] := hA.at Tryd.underlying30 2 2 1 rfl c9
  have f3 : Rd enc W base spare held 9 [c 3] := hA.at Tryd.underlying30 3 3 1 rfl c9
  have f5 : Rd enc W base spare held 4 [c 5] := hU.at Tryd.underlying28 0 0 1 rfl c4
  have f6 : Rd enc W base spare held 24 [c 6] := hU.at Tryd.underlying28 1 1 1 rfl c31
  obtain ⟨x0, b0, e0⟩ := f0.u16
  obtain ⟨x1, b1, e1⟩ := f1.strB
  obtain ⟨x2, b2, e2⟩ := f2.strB
  obtain ⟨x3, b3, e3⟩ := f3.strB
  obtain ⟨x5, e5⟩ := f5.bool Tryd.underlying4
  obtain ⟨x6, b6, e6⟩ := f6.u32
  exact ⟨⟨k, x0, x1, x2, x3, x5, x6⟩, ⟨b0, rfl, one_eq e0, one_eq e1, one_eq e2, one_eq e3, one_eq e5, one_eq e6, h1⟩, ⟨by show x1.size ≤ _; omega, by show x2.size ≤ _; omega⟩, b6⟩
/-- A configuration. -/
theorem rd_sv {H : Type} {enc : TypeId × Value → H} {W : World} {base : Nat} {spare : Nat → Bool} {held : Bool} {cs : List Value} (h : Rd enc W base spare held 36 cs) (hl : cs.length = 5) : ∃ (s : SvD) (cv a1 a2 : Value), cs = (cfA s cv a1 a2).toList ∧ TR W cv s.T ∧ s.title.size ≤ 140737488351232 ∧ ∀ x ∈ s.T, x.size ≤ 140737488351232 := by
  match cs, hl with
  | [a0, a1, a2, a3, a4], _ =>
    obtain ⟨x0, b0, h0⟩ := (h.at Tryd.underlying36 0 0 1 rfl c9 : Rd enc W base spare held 9 [a0]).strB
    obtain ⟨x2, h2⟩ := (h.at Tryd.underlying36 2 2 1 rfl c3 : Rd enc W base spare held 3 [a2]).int Tryd.underlying3
    obtain ⟨ao, m, cap, h3, hnc, hb, _, hel⟩ := rd_sliceX (h.at Tryd.underlying36 1 1 1 rfl c71 : Rd enc W base spare held 34 [a1]) Tryd.underlying34 (m := 1) (by kernel_rfl) (by omega)
    simp only [List.drop_succ_cons, List.drop_zero, List.take_succ_cons, List.take_zero, List.cons.injEq, and_true] at h0 h2 h3
    subst h0 h2 h3
    by_cases hm : 0 < m
    · obtain ⟨b2, off2, rfl, he⟩ := hel hm
      obtain ⟨T, hT1, hT2⟩ := pick_list (n := m) (P := fun k (s : ByteArray) => W.cell? ⟨b2, off2 + k, none⟩ = some (.string s) ∧ s.size ≤ 1048576) (fun k hk => by
        obtain ⟨es, _, hr2, hd⟩ := he k hk
        obtain ⟨z, hz, rfl⟩ := hd.strB
        exact ⟨z, by have := hr2 0 _ rfl; simpa using this, hz⟩)
      subst hT1
      refine ⟨⟨x0, T, x2⟩, _, a3, a4, rfl, ⟨_, cap, rfl, fun _ => ⟨b2, off2, rfl, fun k hk => (hT2 k hk).1⟩, by show T.length * 16 ≤ _; omega, hnc⟩, by show x0.size ≤ _; omega, fun x hx => ?_⟩
      obtain ⟨i, hi, rfl⟩ := List.mem_iff_getElem.1 (show x ∈ T from hx)
      have := (hT2 i hi).2
      omega
    · obtain rfl : m = 0 := by omega
      exact ⟨⟨x0, [], x2⟩, _, a3, a4, rfl, ⟨ao, cap, rfl, fun h => absurd h (by simp), by simp, hnc⟩, by show x0.size ≤ _; omega, fun x hx => by simp at hx⟩
end Go.Proofs.YtnamkcfmbefkfaaDoor
