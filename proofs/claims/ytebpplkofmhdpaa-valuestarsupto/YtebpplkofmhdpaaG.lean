import Derived.Test.YtebpplkofmhdpaaF
/-
  DERIVED. The law of stars, walked where all is asked.
-/
namespace Go.Proofs.Ytebpplkofmhdpaa
open Go Go.Proofs Go.RowKit

theorem dec_eq (a b : Nat) : decide (a = b) = ((a : Int) == (b : Int)) := by rw [Bool.eq_iff_iff, decide_eq_true_eq, beq_iff_eq]; omega

def star : ByteArray := ⟨#[42]⟩
theorem star_ascii : asciiB star = true := by decide +kernel
theorem star_ints : ints star = [42] := rfl
def qs (k : Nat) : ByteArray := ⟨(List.replicate k 63).toArray⟩
theorem qs_size (k : Nat) : (qs k).size = k := by show (List.replicate k 63).toArray.size = k; simp
theorem qs_next (k : Nat) : qs k ++ ⟨#[63]⟩ = qs (k + 1) := by
  apply ByteArray.ext
  apply Array.ext'
  rw [ByteArray.data_append, Array.toList_append]
  unfold qs
  rw [List.replicate_succ']
theorem qs_ascii (k : Nat) : asciiB (qs k) = true := by
  unfold asciiB qs
  rw [List.all_eq_true]
  intro b hb
  have hb2 : b ∈ List.replicate k (63 : UInt8) := hb
  rw [(List.mem_replicate.1 hb2).2]
  rfl
theorem qs_ints (k : Nat) : ints (qs k) = List.replicate k 63 := by
  unfold ints qs
  show List.map _ (List.replicate k (63 : UInt8)) = _
  rw [List.map_replicate]
  rfl

theorem cA (w : World) (x s : ByteArray) (hX : Plain (ints x)) (hx : x.size ≤ 40) (hs : s.size ≤ 200) (ax : asciiB x = true) (sa : asciiB s = true) : Calls Try.prog 5 #[.string x, .string s] w fun e w' => e = .returned (.bool (x.toList == s.toList)) ∧ Below w.heap.size w w' := by
  have := glob_any w x s (by omega) (by omega)
  rw [elems_ascii x ax, elems_ascii s sa, gm_itself hX, ← eq_iff_ints] at this
  exact this
theorem cB (w : World) (x s : ByteArray) (hx : x.size ≤ 40) (hs : s.size ≤ 200) (ax : asciiB x = true) (sa : asciiB s = true) : Calls Try.prog 5 #[.string (star ++ x ++ star), .string s] w fun e w' => e = .returned (.bool (gm (42 :: (ints x ++ [42])) (ints s))) ∧ Below w.heap.size w w' := by
  have hz : (star ++ x ++ star).size ≤ 2097152 := by
    rw [ByteArray.size_append, ByteArray.size_append]
    show 1 + x.size + 1 ≤ _
    omega
  have := glob_any w (star ++ x ++ star) s hz (by omega)
  rw [elems_ascii _ (by rw [ascii_append, ascii_append, star_ascii, ax]; rfl), elems_ascii s sa, ints_append, ints_append, star_ints] at this
  exact this
theorem cC (w : World) (x s : ByteArray) (hX : Plain (ints x)) (hx : x.size ≤ 40) (hs : s.size ≤ 200) (ax : asciiB x = true) (sa : asciiB s = true) : Calls Try.prog 5 #[.string (star ++ x), .string s] w fun e w' => e = .returned (.bool (decide (x.size ≤ s.size) && ((s.extract (s.size - x.size) s.size).toList == x.toList))) ∧ Below w.heap.size w w' := by
  have hz : (star ++ x).size ≤ 2097152 := by
    rw [ByteArray.size_append]
    show 1 + x.size ≤ _
    omega
  have := glob_any w (star ++ x) s hz (by omega)
  rw [elems_ascii _ (by rw [ascii_append, star_ascii, ax]; rfl), elems_ascii s sa, ints_append, star_ints] at this
  rw [← law_ends hX]
  exact this
theorem cD (w : World) (x s : ByteArray) (hX : Plain (ints x)) (hx : x.size ≤ 40) (hs : s.size ≤ 200) (ax : asciiB x = true) (sa : asciiB s = true) : Calls Try.prog 5 #[.string (x ++ star), .string s] w fun e w' => e = .returned (.bool (decide (x.size ≤ s.size) && ((s.extract 0 x.size).toList == x.toList))) ∧ Below w.heap.size w w' := by
  have hz : (x ++ star).size ≤ 2097152 := by
    rw [ByteArray.size_append]
    show x.size + 1 ≤ _
    omega
  have := glob_any w (x ++ star) s hz (by omega)
  rw [elems_ascii _ (by rw [ascii_append, star_ascii, ax]; rfl), elems_ascii s sa, ints_append, star_ints] at this
  rw [← law_begins hX]
  exact this
theorem cI (w : World) (x s : ByteArray) (hX : Plain (ints x)) (hx : x.size ≤ 40) (hs : s.size ≤ 200) : Calls Try.prog 9 #[.string s, .string x] w fun e w' => e = .returned (.bool (gm (42 :: (ints x ++ [42])) (ints s))) ∧ w = w' := by
  refine (inside_any w s x (by omega) (by omega)).mono ?_
  rintro e w' ⟨b, rfl, hb, rfl⟩
  refine ⟨?_, rfl⟩
  rw [← law_inside hX, ← Bool.eq_iff_iff] at hb
  rw [hb]
theorem cE (w : World) (s : ByteArray) (k : Nat) (hk : k ≤ 200) (hs : s.size ≤ 200) (sa : asciiB s = true) : Calls Try.prog 5 #[.string (qs k), .string s] w fun e w' => e = .returned (.bool (decide (s.size = k))) ∧ Below w.heap.size w w' := by
  have := glob_any w (qs k) s (by rw [qs_size]; omega) (by omega)
  rw [elems_ascii _ (qs_ascii k), elems_ascii s sa, qs_ints, gm_marks, ints_len] at this
  exact this

theorem bnd_nat (m : Int) : ∃ M : Nat, bnd m 0 200 = (M : Int) ∧ M ≤ 200 := by
  unfold bnd
  by_cases h1 : m < 0
  · exact ⟨0, by rw [if_pos h1]; rfl, by omega⟩
  · rw [if_neg h1]
    by_cases h2 : 200 < m
    · exact ⟨200, by rw [if_pos h2]; rfl, by omega⟩
    · exact ⟨m.toNat, by rw [if_neg h2]; omega, by omega⟩

set_option maxRecDepth 100000 in
set_option maxHeartbeats 2000000 in
theorem stars_long (w : World) (x s : ByteArray) (m : Int) (hx : x.size ≤ 40) (hs : s.size ≤ 200) (h : tameB x = true) (ax : asciiB x = true) (sa : asciiB s = true) :
    Calls Try.prog 3 #[.string x, .string s, .int .i64 m] w fun e w' => e = .returned (.bool true) ∧ Below w.heap.size w w' := by
  have c1 := fun W => glob_star W s (by omega)
  have c2 := fun W => glob_stars W s (by omega)
  have c3 := fun W => glob_none W
  have c6 := fun W => tame_any W x (by omega)
  have c7 := fun W => ascii_any W x (by omega)
  have c7' := fun W => ascii_any W s (by omega)
  have hX := (tame_plain h).1
  have kA := fun W => cA W x s hX hx hs ax sa
  have kB := fun W => cB W x s hx hs ax sa
  have kC := fun W => cC W x s hX hx hs ax sa
  have kD := fun W => cD W x s hX hx hs ax sa
  have kI := fun W => cI W x s hX hx hs
  have kE := fun W k hk => cE W s k hk hs sa
  obtain ⟨M, hM, hM2⟩ := bnd_nat m
  have c8 := fun W => bound_any W m 0 200
  rw [hM] at c8
  rw [h] at c6
  rw [ax] at c7
  rw [sa] at c7'
  generalize gm (42 :: (ints x ++ [42])) (ints s) = I at kB kI
  have hs4 : ¬ ((200 : Int) < (s.size : Int)) := by omega
  have HB0 : Hid (Below w.heap.size w w) := Below.refl _ _
  clear h ax sa hX hM
  go_enter Try.func3, Try.ntmps3
  go_wp2_with (go_at_call 5; refine Stop.mk ?_)
  refine Stop.out ((c1 _).mono ?_); rintro e W1 ⟨rfl, hb1⟩
  go_wp2_with (go_at_call 5; refine Stop.mk ?_)
  refine Stop.out ((c2 _).mono ?_); rintro e W2 ⟨rfl, hb2⟩
  go_wp2_with (go_at_call 5; refine Stop.mk ?_)
  refine Stop.out ((c3 _).mono ?_); rintro e W3 ⟨rfl, hb3⟩
  have HB : Hid (Below w.heap.size w W3) := (hb1.trans (hb2.mono hb1.size)).trans (hb3.mono (Nat.le_trans hb1.size hb2.size))
  clear hb1 hb2 hb3
  go_wp2_with (first | (go_at_call 6; refine (c6 _).mono ?_; rintro e w' ⟨rfl, rfl⟩) | (go_at_call 7; refine Stop.mk ?_))
  refine Stop.out ((c7 _).mono ?_); rintro e w' ⟨rfl, rfl⟩
  go_wp2_with (go_at_call 7; refine Stop.mk ?_)
  refine Stop.out ((c7' _).mono ?_); rintro e w' ⟨rfl, rfl⟩
  go_wp2_with (go_at_call 8; refine (c8 _).mono ?_; rintro e w' ⟨rfl, rfl⟩)
  clear c1 c2 c3 c6 c7 c7' c8
  go_loopg [7, 8] M (fun g q y wr => ∃ k : Nat, y = .int .i64 (k : Int) ∧ g + k = M ∧ (∃ Q, q = .string Q ∧ Hid (Q = qs k)) ∧ Hid (Below w.heap.size w wr))
  case atStart => exact ⟨0, rfl, by omega, ⟨_, rfl, rfl⟩, HB⟩
  case round =>
    clear HB HB0
    obtain ⟨k, rfl, hk, ⟨Q, rfl, HQ⟩, HB⟩ := hrel
    by_cases hkM : k < M
    · have hkI : (k : Int) < (M : Int) := by omega
      have hqz : Q.size = k := by rw [HQ.out, qs_size]
      have hz : (⟨#[63]⟩ : ByteArray).size = 1 := rfl
      clear kA kB kC kD kI kE
      go_wp2
      go_roundg (M - (k + 1))
      case measure => omega
      case rel => exact ⟨k + 1, by simp, by omega, ⟨_, rfl, by show _ = _; rw [HQ.out, qs_next]⟩, HB⟩
    · obtain rfl : k = M := by omega
      have kE' := fun W => kE W k hM2
      rw [← HQ.out] at kE'
      clear kE
      have hz : (⟨#[42]⟩ : ByteArray).size = 1 := rfl
      unfold star at kB kC kD
      by_cases hxs : x.size ≤ s.size
      · have hxI : (x.size : Int) ≤ (s.size : Int) := by omega
        have e : decide (x.size ≤ s.size) = true := by simp; omega
        have hsub : (s.size : Int) - (x.size : Int) = ((s.size - x.size : Nat) : Int) := by omega
        have hsl : s.size - x.size ≤ s.size := by omega
        rw [e, Bool.true_and] at kC kD
        generalize s.size - x.size = d at *
        go_wp2_with (go_at_call 5; refine Stop.mk ?_)
        refine Stop.out ((kA _).mono ?_); rintro e V1 ⟨rfl, hb1⟩
        go_wp2_with (go_at_call 5; refine Stop.mk ?_)
        refine Stop.out ((kB _).mono ?_); rintro e V2 ⟨rfl, hb2⟩
        go_wp2_with (go_at_call 9; refine Stop.mk ?_)
        refine Stop.out ((kI _).mono ?_); rintro e V3 ⟨rfl, rfl⟩
        go_wp2_with (go_at_call 5; refine Stop.mk ?_)
        refine Stop.out ((kC _).mono ?_); rintro e V3 ⟨rfl, hb3⟩
        go_wp2_with (go_at_call 5; refine Stop.mk ?_)
        refine Stop.out ((kD _).mono ?_); rintro e V4 ⟨rfl, hb4⟩
        go_wp2_with (go_at_call 5; refine Stop.mk ?_)
        refine Stop.out ((kE' _).mono ?_); rintro e V5 ⟨rfl, hb5⟩
        have HB5 : Hid (Below w.heap.size w V5) := by
          have h1 := HB.out.trans (hb1.mono HB.out.size)
          have h2 := h1.trans (hb2.mono h1.size)
          have h3 := h2.trans (hb3.mono h2.size)
          have h4 := h3.trans (hb4.mono h3.size)
          exact h4.trans (hb5.mono h4.size)
        clear hb1 hb2 hb3 hb4 hb5
        go_wp2
        go_ret
        exact ⟨by simp [dec_eq], HB5.out⟩
      · have hxI : ¬ ((x.size : Int) ≤ (s.size : Int)) := by omega
        have e : decide (x.size ≤ s.size) = false := by simp; omega
        rw [e, Bool.false_and] at kC kD
        have hxs' : s.size < x.size := by omega
        clear e
        go_wp2_with (go_at_call 5; refine Stop.mk ?_)
        refine Stop.out ((kA _).mono ?_); rintro e V1 ⟨rfl, hb1⟩
        go_wp2_with (go_at_call 5; refine Stop.mk ?_)
        refine Stop.out ((kB _).mono ?_); rintro e V2 ⟨rfl, hb2⟩
        go_wp2_with (go_at_call 9; refine Stop.mk ?_)
        refine Stop.out ((kI _).mono ?_); rintro e V3 ⟨rfl, rfl⟩
        go_wp2_with (go_at_call 5; refine Stop.mk ?_)
        refine Stop.out ((kC _).mono ?_); rintro e V3 ⟨rfl, hb3⟩
        go_wp2_with (go_at_call 5; refine Stop.mk ?_)
        refine Stop.out ((kD _).mono ?_); rintro e V4 ⟨rfl, hb4⟩
        go_wp2_with (go_at_call 5; refine Stop.mk ?_)
        refine Stop.out ((kE' _).mono ?_); rintro e V5 ⟨rfl, hb5⟩
        have HB5 : Hid (Below w.heap.size w V5) := by
          have h1 := HB.out.trans (hb1.mono HB.out.size)
          have h2 := h1.trans (hb2.mono h1.size)
          have h3 := h2.trans (hb3.mono h2.size)
          have h4 := h3.trans (hb4.mono h3.size)
          exact h4.trans (hb5.mono h4.size)
        clear hb1 hb2 hb3 hb4 hb5
        go_wp2
        go_ret
        exact ⟨by simp [dec_eq], HB5.out⟩

theorem stars_any (w : World) (x s : ByteArray) (m : Int) (hx : x.size ≤ 1048576) (hs : s.size ≤ 1048576) :
    Calls Try.prog 3 #[.string x, .string s, .int .i64 m] w fun e w' => e = .returned (.bool true) ∧ Below w.heap.size w w' := by
  cases h1 : tameB x with
  | false => exact stars_short w x s m hx hs (.inl h1)
  | true =>
    cases h2 : asciiB x with
    | false => exact stars_short w x s m hx hs (.inr (.inl ⟨h1, h2⟩))
    | true =>
      cases h3 : asciiB s with
      | false => exact stars_short w x s m hx hs (.inr (.inr (.inl ⟨h1, h2, h3⟩)))
      | true =>
        by_cases h4 : 200 < s.size
        · exact stars_short w x s m hx hs (.inr (.inr (.inr ⟨h1, h2, h3, h4⟩)))
        · exact stars_long w x s m (tame_plain h1).2 (by omega) h1 h2 h3

end Go.Proofs.Ytebpplkofmhdpaa
