import Derived.Test.YtaingbnfalibjaaDoorZ
import Derived.Test.YtaingbnfalibjaaDoorN
/-
  DERIVED. A number's shortest text.
-/
namespace Go.Proofs.YtaingbnfalibjaaDoor
open Go Go.Proofs Go.RowKit NumLine

theorem Pow.on {w w' : World} (h : Pow w) (hb : Below w.heap.size w w') : Pow w' := by
  unfold Pow Lib.TabIs World.var? at *
  cases hg : Tryd.prog.globalNamed "internal/strconv.uint64pow10" with
  | none => simp [hg] at h
  | some g =>
    simp only [hg, Option.bind_some] at h ⊢
    rcases Nat.lt_or_ge g w.heap.size with hl | hl
    · rw [hb.block g hl]; exact h
    · rw [Array.getElem?_eq_none hl] at h; cases h

def shE (a : Nm) : List UInt8 := Lib.decDigits a.d ++ 69 :: Lib.itoa a.e
def shP (a : Nm) : List UInt8 := if 0 ≤ a.e then pPos (Lib.decDigits a.d) a.e.toNat else ptAt (Lib.repeatL [48] (1 + (-a.e).toNat - (Lib.decDigits a.d).length) ++ Lib.decDigits a.d) (-a.e).toNat
def shT (a : Nm) : List UInt8 := if a.e < -16 ∨ 16 < a.e then shE a else if (shP a).length ≤ (shE a).length then shP a else shE a

theorem dec_pos (u : Nat) : 1 ≤ (Lib.decDigits u).length := by
  rw [Lib.decDigits]
  split
  · simp
  · simp
theorem dec_len (u : Nat) (h : u < 18446744073709551616) : 1 ≤ (Lib.decDigits u).length ∧ (Lib.decDigits u).length ≤ 20 := by
  refine ⟨dec_pos u, ?_⟩
  by_cases h1 : 1 ≤ u
  · rw [Lib.decDigits_length]
    have h2 := Lib.numDigits_eq u h1 h
    split at h2 <;> omega
  · obtain rfl : u = 0 := by omega
    rw [Lib.decDigits_one (by omega)]
    simp
theorem itoa_len (n : Int) (h0 : -9223372036854775808 ≤ n) (h1 : n ≤ 9223372036854775807) : (Lib.itoa n).length ≤ 21 := by
  unfold Lib.itoa
  split
  · have := (dec_len n.natAbs (by omega)).2
    simp; omega
  · have := (dec_len n.toNat (by omega)).2
    omega
theorem plain_any (w : World) (a : Nm) (hd : a.d < 18446744073709551616) (h1 : -16 ≤ a.e) (h2 : a.e ≤ 16) :
    Calls Tryd.prog 46 #[.string (ba (Lib.decDigits a.d)), .int .i64 a.e] w fun e w' => e = .returned (.string (ba (shP a))) ∧ Below w.heap.size w w' := by
  unfold shP
  have hl := dec_len a.d hd
  by_cases h : 0 ≤ a.e
  · rw [if_pos h]
    have c := plain_pos w (Lib.decDigits a.d) a.e.toNat (by omega) hl.2
    rw [Int.toNat_of_nonneg h] at c
    exact c
  · rw [if_neg h]
    have c := plain_neg w (Lib.decDigits a.d) (-a.e).toNat (by omega) (by omega) hl.2 hl.1
    rw [Int.toNat_of_nonneg (by omega), Int.neg_neg] at c
    exact c

set_option maxRecDepth 100000 in
theorem shortest_any (w : World) (a : Nm) (hd : a.d < 18446744073709551616) (h1 : -9223372036854775808 ≤ a.e) (h2 : a.e ≤ 9223372036854775807) (hp : Pow w) :
    Calls Tryd.prog 27 #[nv a] w fun e w' => e = .returned (.string (ba (shT a))) ∧ Below w.heap.size w w' := by
  have c37 := fun W h => fmtUint_any W a.d hd h
  have c35 := fun W h => fmtInt_any W a.e h1 h2 h
  have e1 : ba (Lib.decDigits a.d) ++ ba [69] = ba (Lib.decDigits a.d ++ [69]) := ba_app _ _
  have e2 : ba (Lib.decDigits a.d ++ [69]) ++ ba (Lib.itoa a.e) = ba (shE a) := by rw [ba_app]; unfold shE; simp
  have z1 : (ba (Lib.decDigits a.d)).size ≤ 20 := by rw [ba_size]; exact (dec_len a.d hd).2
  have z2 : (ba (Lib.itoa a.e)).size ≤ 21 := by rw [ba_size]; exact itoa_len a.e h1 h2
  unfold nv
  obtain ⟨W0, hW0⟩ : ∃ W0, w.alloc (.cells #[.bool a.neg, .int .u64 (a.d : Int), .int .i64 a.e] 24) = W0 := ⟨_, rfl⟩
  have b0 : Below w.heap.size w W0 := hW0 ▸ (Below.refl _ _).alloc (Nat.le_refl _) _
  have s0 : w.heap.size < W0.heap.size := by rw [← hW0]; simp
  have k0 : W0.cell? ⟨w.heap.size, 2, none⟩ = some (.int .i64 a.e) := by rw [← hW0]; simp [go_sem]
  have j0 : W0.cell? ⟨w.heap.size, 1, none⟩ = some (.int .u64 (a.d : Int)) := by rw [← hW0]; simp [go_sem]
  have q0 : Pow W0 := hp.on b0
  have c0 := c37 W0 q0
  go_enter Tryd.func27, Tryd.ntmps27
  go_wp2_with (go_at_call 37; refine Stop.mk ?_)
  refine Stop.out (c0.mono ?_)
  rintro e W1 ⟨rfl, hb1⟩
  have B1 : Hid (Below w.heap.size w W1) := b0.trans (hb1.mono b0.size)
  have q1 : Pow W1 := q0.on hb1
  have s1 : w.heap.size < W1.heap.size := Nat.lt_of_lt_of_le s0 hb1.size
  have k1 : W1.cell? ⟨w.heap.size, 2, none⟩ = some (.int .i64 a.e) := (hb1.cell (p := ⟨w.heap.size, 2, none⟩) s0).trans k0
  have c1 := c35 W1 q1
  rw [show (ByteArray.mk (Lib.decDigits a.d).toArray) = ba (Lib.decDigits a.d) from rfl]
  rw [show (ByteArray.mk (Lib.itoa a.e).toArray) = ba (Lib.itoa a.e) from rfl] at c1
  clear hb1 c0 c37 c35 k0 j0 b0 hW0
  have e1' : ba (Lib.decDigits a.d) ++ ⟨#[69]⟩ = ba (Lib.decDigits a.d ++ [69]) := e1
  have z3 : (ba (Lib.decDigits a.d ++ [69])).size ≤ 21 := by rw [← e1, ByteArray.size_append, ba_size [69]]; simp; omega
  go_wp2_with (go_at_call 35; refine Stop.mk ?_)
  refine Stop.out (c1.mono ?_)
  rintro e W2 ⟨rfl, hb2⟩
  have B2 : Hid (Below w.heap.size w W2) := B1.out.trans (hb2.mono B1.out.size)
  have s2 : w.heap.size < W2.heap.size := Nat.lt_of_lt_of_le s1 hb2.size
  have k2 : W2.cell? ⟨w.heap.size, 2, none⟩ = some (.int .i64 a.e) := (hb2.cell (p := ⟨w.heap.size, 2, none⟩) s1).trans k1
  clear hb2 c1 k1 q1 q0 B1
  by_cases hx : a.e < -16 ∨ 16 < a.e
  · have HZ : Hid (ba (shT a) = ba (shE a)) := by show _ = _; unfold shT; rw [if_pos hx]
    rcases hx with hx | hx
    · go_wp2
      go_ret
      exact ⟨by rw [HZ.out]; rfl, B2.out⟩
    · have hx2 : ¬ (a.e < -16) := by omega
      go_wp2
      go_ret
      exact ⟨by rw [HZ.out]; rfl, B2.out⟩
  · have hx1 : ¬ (a.e < -16) := by omega
    have hx2 : ¬ (16 < a.e) := by omega
    have c46 := plain_any W2 a hd (by omega) (by omega)
    go_wp2_with (go_at_call 46; refine Stop.mk ?_)
    refine Stop.out (c46.mono ?_)
    rintro e W3 ⟨rfl, hb3⟩
    have B3 : Hid (Below w.heap.size w W3) := B2.out.trans (hb3.mono B2.out.size)
    clear hb3 c46 k2
    have y1 := ba_size (shP a)
    have y2 := ba_size (shE a)
    by_cases hy : (shP a).length ≤ (shE a).length
    · have HZ : Hid (ba (shT a) = ba (shP a)) := by show _ = _; unfold shT; rw [if_neg hx, if_pos hy]
      have hyI : ((shP a).length : Int) ≤ ((shE a).length : Int) := by omega
      go_wp2
      go_ret
      exact ⟨by rw [HZ.out]; rfl, B3.out⟩
    · have HZ : Hid (ba (shT a) = ba (shE a)) := by show _ = _; unfold shT; rw [if_neg hx, if_neg hy]
      have hyI : ¬ (((shP a).length : Int) ≤ ((shE a).length : Int)) := by omega
      go_wp2
      go_ret
      exact ⟨by rw [HZ.out]; rfl, B3.out⟩
end Go.Proofs.YtaingbnfalibjaaDoor
