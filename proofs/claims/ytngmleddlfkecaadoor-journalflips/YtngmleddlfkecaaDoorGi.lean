import Derived.Test.YtngmleddlfkecaaDoorGh
namespace Go.Proofs.YtngmleddlfkecaaDoor
open Go Go.Proofs Go.RowKit

set_option maxRecDepth 100000 in
theorem flips_long1 (w : World) (a0 : Option Addr) (n0 c0 : Nat) (v1 v2 v3 v4 : Value) (h : 2000 < n0) :
    Calls Tryd.prog 3 #[.slice a0 n0 c0, v1, v2, v3, v4] w fun e w' => e = .returned (.bool true) ∧ Below w.heap.size w w' := by
  have hd : decide ((2000 : Int) < (n0 : Int)) = true := by simp; omega
  go_enter Tryd.func3, Tryd.ntmps3
  go_wp2_with (first | (go_at_call 6; refine (sum_empty _ none 0).mono ?_; rintro e w' ⟨rfl, rfl⟩) | fail)
  go_ret
  exact ⟨rfl, Below.refl _ _⟩

set_option maxRecDepth 100000 in
theorem flips_long2 (w : World) (a0 a1 : Option Addr) (n0 c0 n1 c1 : Nat) (v2 v3 v4 : Value) (h0 : n0 ≤ 2000) (h : 2000 < n1) :
    Calls Tryd.prog 3 #[.slice a0 n0 c0, .slice a1 n1 c1, v2, v3, v4] w fun e w' => e = .returned (.bool true) ∧ Below w.heap.size w w' := by
  have hd0 : decide ((2000 : Int) < (n0 : Int)) = false := by simp; omega
  have hd : decide ((2000 : Int) < (n1 : Int)) = true := by simp; omega
  go_enter Tryd.func3, Tryd.ntmps3
  go_wp2_with (first | (go_at_call 6; refine (sum_empty _ none 0).mono ?_; rintro e w' ⟨rfl, rfl⟩) | fail)
  go_ret
  exact ⟨rfl, Below.refl _ _⟩

/-- A row of our own with bytes in it: where it lies. -/
theorem Own.at0 {w : World} {B : Nat} {v : Value} {d : List Nat} {n : Nat} (h : Own w B v d) (hn : d.length = n) (hp : 0 < n) : ∃ g cap, v = .slice (some ⟨g, 0, none⟩) n cap ∧ At w g 0 d ∧ n ≤ cap ∧ B ≤ g ∧ g < w.heap.size := by
  obtain ⟨a, p, rfl⟩ := h.shape
  obtain ⟨g, rfl⟩ : ∃ g, a = some ⟨g, 0, none⟩ := by
    rcases h.1.2 with ⟨he, h0⟩ | ⟨g, cap, cur, he, _⟩
    · omega
    · simp only [Value.slice.injEq] at he; exact ⟨g, he.1⟩
  subst hn
  refine ⟨g, p, rfl, ?_, ?_, (h.1.lt g rfl).1, (h.1.lt g rfl).2⟩
  · refine ⟨fun k hk => ?_, h.2⟩
    rw [Nat.zero_add, h.1.cellAt (g := g) (cap := p) k (by omega), u8s_get d _ hk]
  · rcases h.v with ⟨_, _, he, h0⟩ | ⟨b, off, cap, he, _, hc, _⟩
    · subst h0; simp at hp
    · simp only [Value.slice.injEq] at he; omega

theorem Few.one {b : List Nat} (h : b.length ≤ 2000) : Few [b] ∧ baseE [b] = none := by
  refine ⟨⟨by simp, by simp [sizeL]; omega⟩, ?_⟩
  simp [baseE, longAt]
  omega

theorem xor_bit (y b : Nat) (hy : y < 256) (hb : b < 8) : bits .xor .u8 (y : Int) ((2 : Int) ^ b % 256) = ((y ^^^ 2 ^ b : Nat) : Int) ∧ y ^^^ 2 ^ b < 256 := by
  have h2 : 2 ^ b < 256 := by
    have : 2 ^ b < 2 ^ 8 := Nat.pow_lt_pow_right (by decide) hb
    exact this
  have e : ((2 : Int) ^ b % 256) = ((2 ^ b : Nat) : Int) := by
    have e1 : ((2 ^ b : Nat) : Int) = (2 : Int) ^ b := by simp
    rw [← e1]
    exact Int.emod_eq_of_lt (Int.natCast_nonneg _) (Int.ofNat_lt.2 h2)
  rw [e]
  exact ⟨u8_xor_nat y _ hy h2, Nat.xor_lt_two_pow (n := 8) hy h2⟩

/-- The row is as long as it was. -/
theorem Turned.long {A P R L E : List Nat} {f k Q n : Nat} (h : Turned A P R f k L E Q) (hn : (A ++ (P ++ R)).length = n) : L.length = n := by
  rw [h.row, ← hn]
  simp only [List.length_append, xorL_length _ _ h.len]

/-- One bit turned: what the row is, and what lies beside it. -/
theorem turn_round {w wr : World} {A P R L E : List Nat} {f k Q fr sz n cap g Bs o y : Nat} {vb vr : Value} {G N : Int} (hT : Turned A P R f k L E Q) (hA : A.length = fr) (hP : P.length = sz) (hat : f + k < 8 * sz) (hn : L.length = n)
    (hO : Own wr w.heap.size (.slice (some ⟨g, 0, none⟩) n cap) L) (hS : Sc wr Bs G vb vr N) (hB : Below w.heap.size w wr) (hg : g < Bs) (ho : o = fr + (f + k) / 8) (hy : L.getD o 0 = y) (hw : w.heap.size ≤ g) :
    ∃ L' E' Q', Q' ≠ 0 ∧ Turned A P R f (k + 1) L' E' Q' ∧ Own (wr.setCell ⟨g, o, none⟩ (.int .u8 (bits .xor .u8 (y : Int) ((2 : Int) ^ ((f + k) % 8) % 256)))) w.heap.size (.slice (some ⟨g, 0, none⟩) n cap) L' ∧ Sc (wr.setCell ⟨g, o, none⟩ (.int .u8 (bits .xor .u8 (y : Int) ((2 : Int) ^ ((f + k) % 8) % 256)))) Bs G vb vr N ∧ Below w.heap.size w (wr.setCell ⟨g, o, none⟩ (.int .u8 (bits .xor .u8 (y : Int) ((2 : Int) ^ ((f + k) % 8) % 256)))) := by
  subst hn
  have hy8 : y < 256 := by rw [← hy]; exact getD_lt hO.2 _
  obtain ⟨hx1, hx2⟩ := xor_bit y ((f + k) % 8) hy8 (by omega)
  obtain ⟨E', hT', hQ'⟩ := hT.turn (by rw [hP]; exact hat)
  rw [hA, ← ho, hy] at hT'
  rw [hx1]
  refine ⟨_, E', _, hQ', hT', ?_, hS.off (by omega) _, hB.setCell (p := ⟨g, o, none⟩) hw _⟩
  have := hO.store (k := o) (x := y ^^^ 2 ^ ((f + k) % 8)) hx2
  rw [List.length_set] at this
  exact this
end Go.Proofs.YtngmleddlfkecaaDoor
