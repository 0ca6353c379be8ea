import Derived.Test.YtdggplhkeekdjaaGreatDoorNu
/-
  DERIVED. What begin goes by.
-/
namespace Go.Proofs.YtdggplhkeekdjaaGreatDoor.Ck
open Go Go.Proofs Go.RowKit

theorem txd_own {w : World} {base : Nat} {a : Option Addr} {n cp : Nat} {T : List ByteArray} (h : w.ownsRow base 9 1 (.slice a n cp) n (Sp.u8s T)) (hn : T.length = n) : TxD w a T ∧ TxAt w a T ∧ (a = none → n = 0 ∧ cp = 0) := by
  rcases h.2 with ⟨h1, h2⟩ | ⟨g, cap, cur, h1, _, _, _⟩
  · obtain ⟨rfl, rfl, rfl⟩ : a = none ∧ n = 0 ∧ cp = 0 := by simpa using h1
    exact ⟨fun i hi => absurd hi (by omega), fun i hi => absurd hi (by omega), fun _ => ⟨rfl, rfl⟩⟩
  · obtain ⟨rfl, rfl⟩ : a = some ⟨g, 0, none⟩ ∧ cp = cap := by simpa using h1
    have hc : ∀ i (hi : i < T.length), w.cell? ⟨g, i, none⟩ = some (.string T[i]) := fun i hi => by
      rw [h.cellAt i (by omega), Sp.u8s_getE T i hi]
    exact ⟨fun i hi => ⟨g, 0, rfl, by rw [Nat.zero_add]; exact hc i hi⟩, fun i hi => ⟨g, rfl, hc i hi⟩, fun e => by cases e⟩
theorem ixd_own {w : World} {base : Nat} {a : Option Addr} {n cp : Nat} {l : List Int} (h : w.ownsRow base 48 1 (.slice a n cp) n (i8s l)) (hn : l.length = n) : IxD w a l ∧ IxAt w a l ∧ (a = none → n = 0 ∧ cp = 0) := by
  rcases h.2 with ⟨h1, h2⟩ | ⟨g, cap, cur, h1, _, _, _⟩
  · obtain ⟨rfl, rfl, rfl⟩ : a = none ∧ n = 0 ∧ cp = 0 := by simpa using h1
    exact ⟨fun i hi => absurd hi (by omega), fun i hi => absurd hi (by omega), fun _ => ⟨rfl, rfl⟩⟩
  · obtain ⟨rfl, rfl⟩ : a = some ⟨g, 0, none⟩ ∧ cp = cap := by simpa using h1
    have hc : ∀ i (hi : i < l.length), w.cell? ⟨g, i, none⟩ = some (.int .i64 l[i]) := fun i hi => by
      rw [h.cellAt i (by omega), show (i8s l)[i]? = some (.int .i64 l[i]) by simp [i8s, hi]]
    exact ⟨fun i hi => ⟨g, 0, rfl, by rw [Nat.zero_add]; exact hc i hi⟩, fun i hi => ⟨g, rfl, hc i hi⟩, fun e => by cases e⟩
theorem own_two {w : World} {b1 b2 : Nat} {v1 v2 : Value} {n1 n2 : Nat} {xs ys : List Value} (h1 : w.ownsRow b1 9 1 v1 n1 xs) (h2 : w.ownsRow b2 48 1 v2 n2 ys) : ∀ g1 g2, v1.ownBlock = some g1 → v2.ownBlock = some g2 → g1 ≠ g2 := fun g1 g2 e1 e2 he => by
  subst he
  rcases h1.2 with ⟨rfl, _⟩ | ⟨g, cap, cur, rfl, _, hh, _⟩
  · cases e1
  · rcases h2.2 with ⟨rfl, _⟩ | ⟨g', cap', cur', rfl, _, hh', _⟩
    · cases e2
    · obtain rfl : g = g1 := by simpa [Value.ownBlock] using e1
      obtain rfl : g' = g := by simpa [Value.ownBlock] using e2
      rw [hh] at hh'
      simp at hh'
/-- What both have made, or that both have refused. -/
def BQ (K : Nat) (X : World) (P6 : Option Addr) (v7 : Value) (P8 a9 : Option Addr) (n9 p9 : Nat) (c9 : Int) : Prop :=
  (∃ q p m q' p', P6 = some ⟨q, 0, none⟩ ∧ v7 = .nilIface ∧ P8 = some ⟨q', 0, none⟩ ∧ (a9 = none ∧ n9 = 0 ∧ p9 = 0 ∧ c9 = 0) ∧ Nv.SpAt X q p m ∧ Nv.RpAt X q' p' ∧ (K ≤ q ∧ K ≤ p ∧ K ≤ m ∧ K ≤ q' ∧ K ≤ p')) ∨
  (∃ q g k, P6 = none ∧ P8 = none ∧ v7 = .iface 115 (.pointer (some ⟨q, 0, none⟩)) ∧ (a9 = some ⟨g, 0, none⟩ ∧ n9 = 1 ∧ p9 = 1 ∧ c9 = 340) ∧ Chain X [(scB, k)] 340 (.iface 115 (.pointer (some ⟨q, 0, none⟩))) ∧ LkAt X g [(scB, k)] ∧ (K ≤ q ∧ K ≤ g))
theorem BQ.on {K : Nat} {X Y : World} {P6 : Option Addr} {v7 : Value} {P8 a9 : Option Addr} {n9 p9 : Nat} {c9 : Int} (h : BQ K X P6 v7 P8 a9 n9 p9 c9) (hb : Below X.heap.size X Y) : BQ K Y P6 v7 P8 a9 n9 p9 c9 := by
  rcases h with ⟨q, p, m, q', p', h1, h2, h3, h4, h5, h6, h7⟩ | ⟨q, g, k, h1, h2, h3, h4, h5, h6, h7⟩
  · exact .inl ⟨q, p, m, q', p', h1, h2, h3, h4, h5.on hb, h6.on hb, h7⟩
  · exact .inr ⟨q, g, k, h1, h2, h3, h4, h5.on hb, h6.on hb, h7⟩
theorem BQ.set {K : Nat} {X : World} {P6 : Option Addr} {v7 : Value} {P8 a9 : Option Addr} {n9 p9 : Nat} {c9 : Int} (h : BQ K X P6 v7 P8 a9 n9 p9 c9) {b i : Nat} (hb : b < K) (u : Value) : BQ K (X.setCell ⟨b, i, none⟩ u) P6 v7 P8 a9 n9 p9 c9 := by
  rcases h with ⟨q, p, m, q', p', h1, h2, h3, h4, h5, h6, h7⟩ | ⟨q, g, k, h1, h2, h3, h4, h5, h6, h7⟩
  · have n1 : b ≠ q := by omega
    have n2 : b ≠ p := by omega
    have n3 : b ≠ q' := by omega
    have n4 : b ≠ p' := by omega
    refine .inl ⟨q, p, m, q', p', h1, h2, h3, h4, ⟨?_, ?_, ?_, ?_, ?_, ?_, ?_, ?_⟩, ⟨?_, ?_, ?_, ?_, ?_⟩, h7⟩
    · exact (Nv.set_off n1).trans h5.c6
    · exact (Nv.set_off n1).trans h5.c7
    · exact (Nv.set_off n1).trans h5.c9
    · exact (Nv.set_off n1).trans h5.c10
    · exact (Nv.set_off n2).trans h5.p1
    · exact (Nv.set_off n2).trans h5.p2
    · exact (Nv.set_off n2).trans h5.p3
    · exact (Below.heap_setCell _ _ _ m (show m ≠ b by omega)).trans h5.hm
    · exact (Nv.set_off n3).trans h6.c6
    · exact (Nv.set_off n3).trans h6.c9
    · exact (Nv.set_off n3).trans h6.c10
    · exact (Nv.set_off n3).trans h6.c11
    · exact (Nv.set_off n4).trans h6.p1
  · have n1 : b ≠ q := by omega
    have n2 : b ≠ g := by omega
    refine .inr ⟨q, g, k, h1, h2, h3, h4, ?_, fun i hi => ⟨(Nv.set_off n2).trans (h6 i hi).1, (Nv.set_off n2).trans (h6 i hi).2⟩, h7⟩
    obtain ⟨q0, u0, e0, d0, d1, d2, d3⟩ := h5
    obtain rfl : q = q0 := by simpa using e0
    exact ⟨q, u0, rfl, (Nv.set_off n1).trans d0, (Nv.set_off n1).trans d1, (Nv.set_off n1).trans d2, d3⟩
theorem newP_form {w : World} {o : Option Int} {e : Ending} {w' : World} (h : NewP w o e w') : ∃ P6 v7, e = .returned (.tuple #[.pointer P6, v7]) := by
  cases o with
  | none => obtain ⟨⟨q, p, m, h1, _⟩, _⟩ := h; exact ⟨_, _, h1⟩
  | some k => obtain ⟨⟨q, h1, _⟩, _⟩ := h; exact ⟨_, _, h1⟩
theorem rnewP_form {w : World} {o : Option Int} {e : Ending} {w' : World} (h : RNewP w o e w') : ∃ P8 a9 n9 p9 c9, e = .returned (.tuple #[.pointer P8, .agg #[.slice a9 n9 p9, .int .i64 c9]]) := by
  cases o with
  | none => obtain ⟨⟨q, p, h1, _⟩, _⟩ := h; exact ⟨_, _, _, _, _, h1⟩
  | some k => obtain ⟨⟨q, h1, _⟩, _⟩ := h; exact ⟨_, _, _, _, _, h1⟩
theorem bq_of {K : Nat} {W X Y : World} {o : Option Int} {P6 : Option Addr} {v7 : Value} {P8 a9 : Option Addr} {n9 p9 : Nat} {c9 : Int} (h : NewP W o (.returned (.tuple #[.pointer P6, v7])) X) (h2 : RNewP X o (.returned (.tuple #[.pointer P8, .agg #[.slice a9 n9 p9, .int .i64 c9]])) Y) (hK : K ≤ W.heap.size) : BQ K Y P6 v7 P8 a9 n9 p9 c9 := by
  have hx : K ≤ X.heap.size := Nat.le_trans hK h.2.size
  cases o with
  | none =>
    obtain ⟨⟨q, p, m, e1, s1, l1, l2, l3⟩, b1⟩ := h
    obtain ⟨⟨q', p', e2, s2, l4, l5⟩, b2⟩ := h2
    obtain ⟨rfl, rfl⟩ : P6 = some ⟨q, 0, none⟩ ∧ v7 = .nilIface := by simpa using e1
    obtain ⟨rfl, ⟨rfl, rfl, rfl⟩, rfl⟩ : P8 = some ⟨q', 0, none⟩ ∧ (a9 = none ∧ n9 = 0 ∧ p9 = 0) ∧ c9 = 0 := by simpa using e2
    exact .inl ⟨q, p, m, q', p', rfl, rfl, rfl, ⟨rfl, rfl, rfl, rfl⟩, s1.on b2, s2, by omega, by omega, by omega, by omega, by omega⟩
  | some k =>
    obtain ⟨⟨q, e1, s1, l1⟩, b1⟩ := h
    obtain ⟨⟨g, e2, s2, l2⟩, b2⟩ := h2
    obtain ⟨rfl, rfl⟩ : P6 = none ∧ v7 = .iface 115 (.pointer (some ⟨q, 0, none⟩)) := by simpa using e1
    obtain ⟨rfl, ⟨rfl, rfl, rfl⟩, rfl⟩ : P8 = none ∧ (a9 = some ⟨g, 0, none⟩ ∧ n9 = 1 ∧ p9 = 1) ∧ c9 = 340 := by simpa using e2
    exact .inr ⟨q, g, k, rfl, rfl, rfl, ⟨rfl, rfl, rfl, rfl⟩, s1.on b2, s2, by omega, by omega⟩
end Go.Proofs.YtdggplhkeekdjaaGreatDoor.Ck
