import Derived.Test.YtohojghndnfgdaaGreatDoorWS
/-
  DERIVED. Signs, the exponent's mark, whole numbers.
-/
namespace Go.Proofs.YtohojghndnfgdaaGreatDoor.Wh
open Go Go.Proofs Go.RowKit

/-- Is this byte one of these two? Then it is taken. -/
def tk (s : ByteArray) (a x y : Nat) : Nat := if nx s a false = x ∨ nx s a false = y then nx s a false else 0
def tP (s : ByteArray) (a x y : Nat) : Nat := if nx s a false = x ∨ nx s a false = y then a + 1 else a
theorem tP_le {s : ByteArray} {a x y : Nat} (h : a ≤ s.size) (hx : x ≠ 0) (hy : y ≠ 0) : tP s a x y ≤ s.size := by
  unfold tP
  split
  · rename_i h2
    have := (nx_pos (s := s) (a := a) (b := false) (by rcases h2 with h2 | h2 <;> omega)).2
    omega
  · exact h
set_option maxRecDepth 100000 in
theorem idx_E (x : Nat) (h : x < 256) : ((x = 69 ∨ x = 101) ∧ 0 ≤ Lib.indexByte (⟨#[69, 101]⟩ : ByteArray).data.toList x.toUInt8) ∨ (¬ (x = 69 ∨ x = 101) ∧ Lib.indexByte (⟨#[69, 101]⟩ : ByteArray).data.toList x.toUInt8 < 0) := by
  revert x
  decide +kernel

theorem take_sign (w : World) (q : Nat) (f : Nat → Value) (s : ByteArray) (a : Nat) (h : Cur w q f s a false) (ha : a ≤ s.size) (hs : s.size ≤ 140737488351232) :
    Calls Tryz.prog 52 #[.pointer (some ⟨q, 0, none⟩), .string ⟨#[43, 45]⟩] w fun e w' => ∃ f', e = .returned (.int .u8 (tk s a 43 45 : Nat)) ∧ Cur w' q f' s (tP s a 43 45) false ∧ w.grownBy w' (some q) := by
  unfold tk tP
  rcases idx_sign (nx s a false) (nx_lt _ _ _) with ⟨h1, h2⟩ | ⟨h1, h2⟩
  · rw [if_pos h1, if_pos h1]
    refine (take_yes w q f s a false h ha hs _ h2).mono ?_
    rintro e w' ⟨f', rfl, hc, _, hg⟩
    exact ⟨f', rfl, hc, hg⟩
  · rw [if_neg h1, if_neg h1]
    refine (take_no w q f s a false h ha _ h2).mono ?_
    rintro e w' ⟨f', rfl, hc, _, hg⟩
    exact ⟨f', rfl, hc, hg⟩
theorem take_E (w : World) (q : Nat) (f : Nat → Value) (s : ByteArray) (a : Nat) (b : Bool) (h : Cur w q f s a b) (ha : a ≤ s.size) (hs : s.size ≤ 140737488351232) (hb : b = true → nx s a b = 0) :
    Calls Tryz.prog 52 #[.pointer (some ⟨q, 0, none⟩), .string ⟨#[69, 101]⟩] w fun e w' => ∃ f', e = .returned (.int .u8 ((if b = true then 0 else tk s a 69 101 : Nat) : Int)) ∧ Cur w' q f' s (if b = true then a else tP s a 69 101) b ∧ w.grownBy w' (some q) := by
  cases b with
  | true =>
    have hn := hb rfl
    rw [if_pos rfl, if_pos rfl]
    rcases idx_E (nx s a true) (nx_lt _ _ _) with ⟨h1, h2⟩ | ⟨h1, h2⟩
    · omega
    · refine (take_no w q f s a true h ha _ h2).mono ?_
      rintro e w' ⟨f', rfl, hc, _, hg⟩
      exact ⟨f', rfl, hc, hg⟩
  | false =>
    rw [if_neg (by decide), if_neg (by decide)]
    unfold tk tP
    rcases idx_E (nx s a false) (nx_lt _ _ _) with ⟨h1, h2⟩ | ⟨h1, h2⟩
    · rw [if_pos h1, if_pos h1]
      refine (take_yes w q f s a false h ha hs _ h2).mono ?_
      rintro e w' ⟨f', rfl, hc, _, hg⟩
      exact ⟨f', rfl, hc, hg⟩
    · rw [if_neg h1, if_neg h1]
      refine (take_no w q f s a false h ha _ h2).mono ?_
      rintro e w' ⟨f', rfl, hc, _, hg⟩
      exact ⟨f', rfl, hc, hg⟩

def PostW (w : World) (q : Nat) (s : ByteArray) (a : Nat) (b : Bool) (v : Value) (e : Ending) (w' : World) : Prop := ∃ f', e = .returned v ∧ Cur w' q f' s a b ∧ w.grownBy w' (some q)

/-- A whole number that is read. -/
def whV (s : ByteArray) (a : Nat) : Int :=
  let p := tP s a 43 45
  let n : Int := (val (s.extract p (p + cnt s p s.size)).data.toList : Nat)
  if tk s a 43 45 = 45 then -n else n

set_option maxRecDepth 100000 in
set_option maxHeartbeats 1000000 in
theorem whole_any (w : World) (q : Nat) (f : Nat → Value) (s : ByteArray) (a p c : Nat) (h : Cur w q f s a false) (ha : a ≤ s.size) (hs : s.size ≤ 16)
    (hp : tP s a 43 45 = p) (hc : cnt s p s.size = c) :
    Calls Tryz.prog 25 #[.pointer (some ⟨q, 0, none⟩)] w (PostW w q s (p + c) (decide (c < 1)) (.int .i64 (whV s a))) := by
  have l1 : p ≤ s.size := hp ▸ tP_le ha (by decide) (by decide)
  have l2 : p + c ≤ s.size := hc ▸ cnt_size s s.size p l1
  have d1 := take_sign w q f s a h ha (by omega)
  unfold whV
  dsimp only
  rw [hp] at d1 ⊢
  rw [hc]
  generalize tk s a 43 45 = y at *
  have hD : Digs (s.extract p (p + c)) := digs_ext s p c s.size (by omega)
  obtain ⟨u, hu⟩ : ∃ u, s.extract p (p + c) = u := ⟨_, rfl⟩
  have z1 : u.size = c := by rw [← hu, ByteArray.size_extract]; omega
  rw [hu] at hD ⊢
  have c23 := fun W => worth_any W u hD (by omega)
  have hN : val u.data.toList < 1000000000000000000 := by
    have h1 := valN_lt u.data.toList 0 hD
    have h2 : u.data.toList.length ≤ 16 := by rw [Array.length_toList]; show u.size ≤ 16; omega
    have h3 : 10 ^ u.data.toList.length ≤ 10 ^ 16 := Nat.pow_le_pow_right (by decide) h2
    unfold val
    omega
  generalize val u.data.toList = n at *
  obtain ⟨V, HV⟩ : ∃ V, Hid ((if y = 45 then -(n : Int) else (n : Int)) = V) := ⟨_, rfl⟩
  rw [HV.out]
  obtain ⟨bb, HBB⟩ : ∃ bb, Hid (decide (c < 1) = bb) := ⟨_, rfl⟩
  rw [HBB.out]
  clear h hD
  go_enter Tryz.func25, Tryz.ntmps25
  go_wp2_with (go_at_call 52; refine Stop.mk ?_)
  refine Stop.out (d1.mono ?_)
  rintro e W1 ⟨f1, rfl, hc1, hg1⟩
  have HG1 : Hid (w.grownBy W1 (some q)) := hg1
  have d2 := digits_any W1 q f1 s p false hc1 l1 (by omega) 1 s.size (by omega) (by omega) c (by simp [hc])
  rw [hu, show ((1 : Nat) : Int) = 1 from rfl] at d2
  obtain ⟨q0, q1, q2⟩ := hc1.cells
  clear hc1 hg1 d1
  go_wp2_with (go_at_call 54; refine Stop.mk ?_)
  refine Stop.out (d2.mono ?_)
  rintro e W2 ⟨f2, rfl, hc2, _, hg2⟩
  have HG2 : Hid (w.grownBy W2 (some q)) := grown_trans HG1.out hg2
  have HC2 : Hid (Cur W2 q f2 s (p + c) bb) := ⟨hc2.row, hc2.c0, hc2.c1, by rw [hc2.c2, Bool.false_or, HBB.out]⟩
  clear hc2 hg2 d2 q0 q1 q2 HG1 hu
  go_wp2_with (go_at_call 53; refine Stop.mk ?_)
  refine Stop.out ((c23 _).mono ?_)
  rintro e W3 ⟨rfl, hb3⟩
  have HC3 : Hid (Cur W3 q f2 s (p + c) bb) := HC2.out.on hb3
  have HG3 : Hid (w.grownBy W3 (some q)) := grown_below HG2.out hb3
  clear hb3 HC2 HG2 c23
  by_cases hy : y = 45
  · have hyI : ((y : Int) == 45) = true := by rw [hy]; rfl
    go_wp2
    go_ret
    exact ⟨f2, by rw [← HV.out, if_pos hy]; rfl, HC3.out, HG3.out⟩
  · have hyI : ((y : Int) == 45) = false := by simp; omega
    go_wp2
    go_ret
    exact ⟨f2, by rw [← HV.out, if_neg hy]; rfl, HC3.out, HG3.out⟩
end Go.Proofs.YtohojghndnfgdaaGreatDoor.Wh
