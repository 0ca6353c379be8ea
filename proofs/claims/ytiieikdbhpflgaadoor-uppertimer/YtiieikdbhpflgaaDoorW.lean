import Derived.Test.YtiieikdbhpflgaaDoorU
/-
  DERIVED. A PDU and an event that came in.
-/
namespace Go.Proofs.YtiieikdbhpflgaaDoor
open Go Go.Proofs Go.RowKit

section
variable {H : Type} {enc : TypeId × Value → H} {W : World} {base : Nat} {spare : Nat → Bool} {held : Bool}

set_option maxRecDepth 100000 in
theorem Rd.pdu {cs : List Value} (h : Rd enc W base spare held 40 cs) (hl : cs.length = 19) : ∃ k c, cs = (Pd k c).toList ∧ RP W c := by
  match cs, hl with
  | [a0, a1, a2, a3, a4, a5, a6, a7, a8, a9, a10, a11, a12, a13, a14, a15, a16, a17, a18], _ =>
    obtain ⟨k, h0⟩ := (h.at Tryd.underlying40 0 0 1 rfl c3 : Rd enc W base spare held 3 [a0]).int Tryd.underlying3
    simp only [List.drop_zero, List.take_succ_cons, List.take_zero, List.cons.injEq, and_true] at h0
    subst h0
    have hA : Rd enc W base spare held 37 [a1, a2, a3, a4, a5, a6, a7, a8, a9, a10, a11, a12, a13, a14] := h.at Tryd.underlying40 1 1 14 rfl c37
    have hU : Rd enc W base spare held 35 [a6, a7, a8, a9, a10, a11, a12, a13, a14] := hA.at Tryd.underlying37 5 5 9 rfl c35
    have f0 : Rd enc W base spare held 29 [a1] := hA.at Tryd.underlying37 0 0 1 rfl c29
    have f1 : Rd enc W base spare held 9 [a2] := hA.at Tryd.underlying37 1 1 1 rfl c9
    have f2 : Rd enc W base spare held 9 [a3] := hA.at Tryd.underlying37 2 2 1 rfl c9
    have f3 : Rd enc W base spare held 9 [a4] := hA.at Tryd.underlying37 3 3 1 rfl c9
    have f4 : Rd enc W base spare held 30 [a5] := hA.at Tryd.underlying37 4 4 1 rfl c30
    have f5 : Rd enc W base spare held 4 [a6] := hU.at Tryd.underlying35 0 0 1 rfl c4
    have f6 : Rd enc W base spare held 31 [a7] := hU.at Tryd.underlying35 1 1 1 rfl c31
    have f7 : Rd enc W base spare held 9 [a8] := hU.at Tryd.underlying35 2 2 1 rfl c9
    have f8 : Rd enc W base spare held 9 [a9] := hU.at Tryd.underlying35 3 3 1 rfl c9
    have f9 : Rd enc W base spare held 4 [a10] := hU.at Tryd.underlying35 4 4 1 rfl c4
    have f10 : Rd enc W base spare held 29 [a11] := hU.at Tryd.underlying35 5 5 1 rfl c29
    have f11 : Rd enc W base spare held 29 [a12] := hU.at Tryd.underlying35 6 6 1 rfl c29
    have f12 : Rd enc W base spare held 32 [a13] := hU.at Tryd.underlying35 7 7 1 rfl c32
    have f13 : Rd enc W base spare held 33 [a14] := hU.at Tryd.underlying35 8 8 1 rfl c33
    have f14 : Rd enc W base spare held 5 [a15] := h.at Tryd.underlying40 2 15 1 rfl c5
    have f15 : Rd enc W base spare held 5 [a16] := h.at Tryd.underlying40 3 16 1 rfl c5
    have f16 : Rd enc W base spare held 5 [a17] := h.at Tryd.underlying40 4 17 1 rfl c5
    have f17 : Rd enc W base spare held 38 [a18] := h.at Tryd.underlying40 5 18 1 rfl c38
    refine ⟨k, fun i => [a1, a2, a3, a4, a5, a6, a7, a8, a9, a10, a11, a12, a13, a14, a15, a16, a17, a18][i], rfl, ⟨fun i => ?_, ?_, ?_, ?_, ?_⟩⟩
    · match i with
      | ⟨0, _⟩ => exact one_int f0 Tryd.underlying29
      | ⟨1, _⟩ => exact one_str f1 Tryd.underlying9
      | ⟨2, _⟩ => exact one_str f2 Tryd.underlying9
      | ⟨3, _⟩ => exact one_str f3 Tryd.underlying9
      | ⟨4, _⟩ => exact one_slice f4 Tryd.underlying30 (st := 4) (by kernel_rfl) (by omega)
      | ⟨5, _⟩ => exact one_bool f5 Tryd.underlying4
      | ⟨6, _⟩ => exact one_int f6 Tryd.underlying31
      | ⟨7, _⟩ => exact one_str f7 Tryd.underlying9
      | ⟨8, _⟩ => exact one_str f8 Tryd.underlying9
      | ⟨9, _⟩ => exact one_bool f9 Tryd.underlying4
      | ⟨10, _⟩ => exact one_int f10 Tryd.underlying29
      | ⟨11, _⟩ => exact one_int f11 Tryd.underlying29
      | ⟨12, _⟩ => exact one_slice f12 Tryd.underlying32 (st := 3) (by kernel_rfl) (by omega)
      | ⟨13, _⟩ => exact one_slice f13 Tryd.underlying33 (st := 2) (by kernel_rfl) (by omega)
      | ⟨14, _⟩ => exact one_int f14 Tryd.underlying5
      | ⟨15, _⟩ => exact one_int f15 Tryd.underlying5
      | ⟨16, _⟩ => exact one_int f16 Tryd.underlying5
      | ⟨17, _⟩ => exact one_slice f17 Tryd.underlying38 (st := 4) (by kernel_rfl) (by omega)
      | ⟨n + 18, h⟩ => exact absurd h (by omega)
    · exact f4.list Tryd.underlying30 (by kernel_rfl) (by omega) (by kernel_rfl) (fun es b o h1 h2 h3 => h3.ctx h1 h2)
    · exact f12.list Tryd.underlying32 (by kernel_rfl) (by omega) (by kernel_rfl) (fun es b o h1 h2 h3 => h3.role h1 h2)
    · exact f13.list Tryd.underlying33 (by kernel_rfl) (by omega) (by kernel_rfl) (fun es b o h1 h2 h3 => h3.oth h1 h2)
    · exact f17.list Tryd.underlying38 (by kernel_rfl) (by omega) (by kernel_rfl) (fun es b o h1 h2 h3 => h3.pdv h1 h2)

theorem Rd.ev {cs : List Value} (h : Rd enc W base spare held 50 cs) (hl : cs.length = 41) : ∃ kd k1 c1 k2 c2, EvOK W cs.toArray kd k1 c1 k2 c2 := by
  have h0 := h.at Tryd.underlying50 0 0 1 rfl c3
  have h1 := h.at Tryd.underlying50 1 1 19 rfl c40
  have h2 := h.at Tryd.underlying50 2 20 1 rfl c4
  have h3 := h.at Tryd.underlying50 3 21 19 rfl c40
  have h4 := h.at Tryd.underlying50 4 40 1 rfl c5
  obtain ⟨kd, e0⟩ := h0.int Tryd.underlying3
  obtain ⟨k1, c1, e1, r1⟩ := h1.pdu (by simp [hl])
  obtain ⟨bd, e2⟩ := h2.bool Tryd.underlying4
  obtain ⟨k2, c2, e3, r2⟩ := h3.pdu (by simp [hl])
  obtain ⟨rs, _, e4⟩ := h4.u8
  have g : ∀ (o n j : Nat), j < n → ((cs.drop o).take n)[j]? = cs[o + j]? := fun o n j hj => by rw [List.getElem?_take, if_pos hj, List.getElem?_drop]
  have p0 : cs[0]? = some (.int .i64 kd) := by have := g 0 1 0 (by omega); rw [e0] at this; simpa using this.symm
  have p1 : ∀ j, j < 19 → (Pd k1 c1).toList[j]? = cs[1 + j]? := fun j hj => by rw [← e1]; exact g 1 19 j hj
  have p2 : cs[20]? = some (.bool bd) := by have := g 20 1 0 (by omega); rw [e2] at this; simpa using this.symm
  have p3 : ∀ j, j < 19 → (Pd k2 c2).toList[j]? = cs[21 + j]? := fun j hj => by rw [← e3]; exact g 21 19 j hj
  have p4 : cs[40]? = some (.int .u8 (rs : Int)) := by have := g 40 1 0 (by omega); rw [e4] at this; simpa using this.symm
  refine ⟨kd, k1, c1, k2, c2, by simpa using hl, by simpa using p0, ?_, fun j v hv => ?_, fun j v hv => ?_, r1, r2⟩
  · rw [Array.all_eq_true_iff_forall_mem]
    intro v hv
    obtain ⟨i, hi⟩ := List.mem_iff_getElem?.1 (by simpa using hv : v ∈ cs)
    have hi41 : i < 41 := by have := (List.getElem?_eq_some_iff.1 hi).1; omega
    have q1 := Array.all_eq_true_iff_forall_mem.1 (pd_one k1 c1 r1.one)
    have q2 := Array.all_eq_true_iff_forall_mem.1 (pd_one k2 c2 r2.one)
    by_cases a1 : i = 0
    · subst a1; rw [p0] at hi; cases hi; rfl
    by_cases a2 : i < 20
    · have := p1 (i - 1) (by omega)
      rw [show 1 + (i - 1) = i by omega, hi] at this
      exact q1 v (by simpa using List.mem_of_getElem? this)
    by_cases a3 : i = 20
    · subst a3; rw [p2] at hi; cases hi; rfl
    by_cases a4 : i < 40
    · have := p3 (i - 21) (by omega)
      rw [show 21 + (i - 21) = i by omega, hi] at this
      exact q2 v (by simpa using List.mem_of_getElem? this)
    obtain rfl : i = 40 := by omega
    rw [p4] at hi; cases hi; rfl
  · have hj : j < 19 := (List.getElem?_eq_some_iff.1 hv).1
    rw [p1 j hj] at hv
    simpa using hv
  · have hj : j < 19 := (List.getElem?_eq_some_iff.1 hv).1
    rw [p3 j hj] at hv
    simpa using hv

theorem Rd.evs {v : Value} (h : Rd enc W base spare held 25 [v]) : ∃ n, n ≤ 140737488351232 ∧ Evs W v n := by
  obtain ⟨ao, n, cap, h1, hw, _, hel⟩ := h.slice Tryd.underlying25 (m := 41) (by kernel_rfl) (by omega)
  simp only [List.cons.injEq, and_true] at h1
  subst h1
  have hb : 1 ≤ Tryd.prog.bytesOf 50 := of_decide_eq_true (by kernel_rfl)
  refine ⟨n, Nat.le_trans (Nat.le_mul_of_pos_right n hb) hw, ao, cap, rfl, fun hn => ?_⟩
  obtain ⟨b, off, rfl, he⟩ := hel hn
  refine ⟨b, off, rfl, fun i hi => ?_⟩
  obtain ⟨es, h1, h2, h3⟩ := he i hi
  obtain ⟨kd, k1, c1, k2, c2, hev⟩ := h3.ev h1
  exact ⟨es.toArray, kd, k1, c1, k2, c2, by simpa using h2, hev⟩
end
end Go.Proofs.YtiieikdbhpflgaaDoor
