import Derived.Test.YtlfmihhnijlpiaaGreatDoorSl
/-
  DERIVED. The program's Join.
-/
namespace Go.Proofs.YtlfmihhnijlpiaaGreatDoor.Sp
open Go Go.Proofs Go.RowKit
open Wk (cell_lt own_keep Stop)

/-- What the program says of a refusal (code 0: none). -/
structure PErr (w : World) (e : Value) (c p : Int) : Prop where
  zer : c = 0 → e = .nilIface
  non : c ≠ 0 → ∃ q, e = .iface 69 (.pointer (some ⟨q, 0, none⟩)) ∧ w.cell? ⟨q, 0, none⟩ = some (.string { data := #[100, 105, 99, 116] }) ∧ w.cell? ⟨q, 1, none⟩ = some (.int .i64 p) ∧ w.cell? ⟨q, 2, none⟩ = some (.iface 54 (.int .i64 c))
theorem PErr.on {w w' : World} {e : Value} {c p : Int} (h : PErr w e c p) (hb : Below w.heap.size w w') : PErr w' e c p :=
  ⟨h.zer, fun hc => by
    obtain ⟨q, h1, h2, h3, h4⟩ := h.non hc
    exact ⟨q, h1, (World.cell?_of_block (hb.block q (cell_lt h2))).trans h2, (World.cell?_of_block (hb.block q (cell_lt h3))).trans h3, (World.cell?_of_block (hb.block q (cell_lt h4))).trans h4⟩⟩
theorem PErr.ok (w : World) (p : Int) : PErr w .nilIface 0 p := ⟨fun _ => rfl, fun h => absurd rfl h⟩

set_option maxHeartbeats 2000000 in
theorem refuse_any (W : World) (c p : Int) (hc : c ≠ 0) : Calls Tryz.prog 17 #[.int .i64 p, .iface 54 (.int .i64 c)] W fun e w' => ∃ x, e = .returned x ∧ Hid (PErr w' x c p ∧ Below W.heap.size W w') := by
  go_enter Tryz.func17, Tryz.ntmps17
  go_wp2
  go_ret
  exact ⟨_, rfl, ⟨fun h => absurd h hc, fun _ => ⟨W.heap.size, rfl, by simp, by simp, by simp⟩⟩, (Below.refl _ _).alloc (Nat.le_refl _) _⟩

def bsl : ByteArray := { data := #[92] }
def mty : ByteArray := { data := #[] }
theorem fiR_ge (f : ByteArray → Bool) : ∀ xs, -1 ≤ fiR f xs
  | [] => Int.le_refl _
  | x :: r => by
      have := fiR_ge f r
      unfold fiR
      split
      · omega
      · split <;> omega

set_option maxRecDepth 100000 in
set_option maxHeartbeats 4000000 in
theorem jtexts_any (W : World) (v : Value) (xs : List ByteArray) (hn : xs.length ≤ 9000000) (hl : (jnL xs bsl).length ≤ 90000000) (ha : TxAt W v xs) :
    Calls Tryz.prog 19 #[v] W fun e w' => ∃ x, e = .returned (.tuple #[.string (if fiR hasS xs = -1 then jnB xs bsl else mty), x]) ∧ Hid (PErr w' x (if fiR hasS xs = -1 then 0 else 64) (fiR hasS xs) ∧ Below W.heap.size W w') := by
  have c35 := idx_has W v xs hn ha
  have HA : Hid _ := ha
  obtain ⟨a, cap, hv, -, -⟩ := ha.form
  have hge := fiR_ge hasS xs
  by_cases h : fiR hasS xs = -1
  · rw [if_pos h, if_pos h]
    rw [h] at c35 ⊢
    have c18 : ∀ w, Hid (Below W.heap.size W w) → Calls Tryz.prog 18 #[v, .string { data := #[92] }] w fun e w' => e = .returned (.string (jnB xs bsl)) ∧ Hid (Below w.heap.size w w') := fun w hb => join_str w v xs bsl (HA.out.on hb.out) hn hl
    generalize jnB xs bsl = J at *
    subst hv
    generalize xs.length = n at *
    clear ha HA h hge
    go_enter Tryz.func19, Tryz.ntmps19
    go_wp2_with (first | (go_at_call 35; refine c35.mono ?_; rintro e w1 ⟨rfl, hb1⟩) | (go_at_call 18; refine (c18 _ hb1).mono ?_; rintro e w2 ⟨rfl, hb2⟩))
    exact bodyPost_ret (v := .tuple #[.string J, .nilIface]) (by simp only [results, Tryz.results19]; simp [go_sem]) rfl ⟨_, rfl, PErr.ok _ _, hb1.out.trans (hb2.out.mono hb1.out.size)⟩
  · rw [if_neg h, if_neg h]
    obtain ⟨i, hi⟩ : ∃ i : Nat, fiR hasS xs = (i : Int) := ⟨(fiR hasS xs).toNat, by omega⟩
    rw [hi] at c35 ⊢
    have c17 := fun w => refuse_any w 64 (i : Int) (by decide)
    subst hv
    generalize xs.length = n at *
    clear ha HA h hge hi
    have hI : (0 : Int) ≤ (i : Int) := by omega
    go_enter Tryz.func19, Tryz.ntmps19
    go_wp2_with (first | (go_at_call 35; refine c35.mono ?_; rintro e w1 ⟨rfl, hb1⟩) | (go_at_call 17; refine (c17 _).mono ?_; rintro e w2 ⟨x, rfl, hb2⟩))
    exact bodyPost_ret (v := .tuple #[.string mty, x]) (by simp only [results, Tryz.results19]; simp [go_sem, mty]) rfl ⟨_, rfl, hb2.out.1, hb1.out.trans (hb2.out.2.mono hb1.out.size)⟩

set_option maxRecDepth 100000 in
set_option maxHeartbeats 4000000 in
theorem junits_any (W : World) (v : Value) (xs : List ByteArray) (u : Nat) (hu : u ≤ 1000) (hxs : ∀ x ∈ xs, x.size ≤ 90000000) (hn : xs.length ≤ 9000000) (hl : (jnL xs mty).length ≤ 90000000) (ha : TxAt W v xs) :
    Calls Tryz.prog 20 #[v, .int .i64 (u : Int)] W fun e w' => ∃ x, e = .returned (.tuple #[.string (if fiR (offU u) xs = -1 then jnB xs mty else mty), x]) ∧ Hid (PErr w' x (if fiR (offU u) xs = -1 then 0 else 63) (fiR (offU u) xs) ∧ Below W.heap.size W w') := by
  have HW1 : Hid (Below W.heap.size W (W.alloc (.cells #[.int .i64 (u : Int)] 3))) := (Below.refl _ _).alloc (Nat.le_refl _) _
  have c35 := idx_off (W.alloc (.cells #[.int .i64 (u : Int)] 3)) v xs u W.heap.size hu hxs (by simp) hn (ha.on HW1.out)
  have HA : Hid _ := ha
  obtain ⟨a, cap, hv, -, -⟩ := ha.form
  have hge := fiR_ge (offU u) xs
  by_cases h : fiR (offU u) xs = -1
  · rw [if_pos h, if_pos h]
    rw [h] at c35 ⊢
    have c18 : ∀ w, Hid (Below (W.alloc (.cells #[.int .i64 (u : Int)] 3)).heap.size (W.alloc (.cells #[.int .i64 (u : Int)] 3)) w) → Calls Tryz.prog 18 #[v, .string { data := #[] }] w fun e w' => e = .returned (.string (jnB xs mty)) ∧ Hid (Below w.heap.size w w') := fun w hb => join_str w v xs mty ((HA.out.on HW1.out).on hb.out) hn hl
    generalize jnB xs mty = J at *
    subst hv
    generalize xs.length = n at *
    clear ha HA h hge hxs hl
    go_enter Tryz.func20, Tryz.ntmps20
    go_wp2_with (first | (go_at_call 35; refine c35.mono ?_; rintro e w1 ⟨rfl, hb1⟩) | (go_at_call 18; refine (c18 _ hb1).mono ?_; rintro e w2 ⟨rfl, hb2⟩))
    exact bodyPost_ret (v := .tuple #[.string J, .nilIface]) (by simp only [results, Tryz.results20]; simp [go_sem]) rfl ⟨_, rfl, PErr.ok _ _, (HW1.out.trans (hb1.out.mono HW1.out.size)).trans (hb2.out.mono (Nat.le_trans HW1.out.size hb1.out.size))⟩
  · rw [if_neg h, if_neg h]
    obtain ⟨i, hi⟩ : ∃ i : Nat, fiR (offU u) xs = (i : Int) := ⟨(fiR (offU u) xs).toNat, by omega⟩
    rw [hi] at c35 ⊢
    have c17 := fun w => refuse_any w 63 (i : Int) (by decide)
    subst hv
    generalize xs.length = n at *
    clear ha HA h hge hi hxs hl
    have hI : (0 : Int) ≤ (i : Int) := by omega
    go_enter Tryz.func20, Tryz.ntmps20
    go_wp2_with (first | (go_at_call 35; refine c35.mono ?_; rintro e w1 ⟨rfl, hb1⟩) | (go_at_call 17; refine (c17 _).mono ?_; rintro e w2 ⟨x, rfl, hb2⟩))
    exact bodyPost_ret (v := .tuple #[.string mty, x]) (by simp only [results, Tryz.results20]; simp [go_sem, mty]) rfl ⟨_, rfl, hb2.out.1, (HW1.out.trans (hb1.out.mono HW1.out.size)).trans (hb2.out.2.mono (Nat.le_trans HW1.out.size hb1.out.size))⟩
end Go.Proofs.YtlfmihhnijlpiaaGreatDoor.Sp
