import Derived.Test.YtebpplkofmhdpaaE
/-
  DERIVED. The law of stars, walked.
-/
namespace Go.Proofs.Ytebpplkofmhdpaa
open Go Go.Proofs Go.RowKit

theorem elems_star : elems ⟨#[42]⟩ = [42] := by rw [elems_ascii _ (by decide +kernel)]; rfl
theorem elems_stars : elems ⟨#[42, 42]⟩ = [42, 42] := by rw [elems_ascii _ (by decide +kernel)]; rfl
theorem elems_none : elems ⟨#[]⟩ = [] := rfl
theorem elems_a : elems ⟨#[97]⟩ = [97] := by rw [elems_ascii _ (by decide +kernel)]; rfl

theorem glob_star (w : World) (s : ByteArray) (hs : s.size ≤ 2097152) : Calls Try.prog 5 #[.string ⟨#[42]⟩, .string s] w fun e w' => e = .returned (.bool true) ∧ Below w.heap.size w w' := by
  have := glob_any w ⟨#[42]⟩ s (by show 1 ≤ _; omega) hs
  rw [elems_star, gm_all] at this
  exact this
theorem glob_stars (w : World) (s : ByteArray) (hs : s.size ≤ 2097152) : Calls Try.prog 5 #[.string ⟨#[42, 42]⟩, .string s] w fun e w' => e = .returned (.bool true) ∧ Below w.heap.size w w' := by
  have := glob_any w ⟨#[42, 42]⟩ s (by show 2 ≤ _; omega) hs
  rw [elems_stars, gm_all2] at this
  exact this
theorem glob_none (w : World) : Calls Try.prog 5 #[.string ⟨#[]⟩, .string ⟨#[97]⟩] w fun e w' => e = .returned (.bool false) ∧ Below w.heap.size w w' := by
  have := glob_any w ⟨#[]⟩ ⟨#[97]⟩ (by show 0 ≤ _; omega) (by show 1 ≤ _; omega)
  rw [elems_none, elems_a] at this
  exact this

set_option maxRecDepth 100000 in
set_option maxHeartbeats 1000000 in
/-- Where nothing more is asked. -/
theorem stars_short (w : World) (x s : ByteArray) (m : Int) (hx : x.size ≤ 1048576) (hs : s.size ≤ 1048576) (h : tameB x = false ∨ (tameB x = true ∧ asciiB x = false) ∨ (tameB x = true ∧ asciiB x = true ∧ asciiB s = false) ∨ (tameB x = true ∧ asciiB x = true ∧ asciiB s = true ∧ 200 < s.size)) :
    Calls Try.prog 3 #[.string x, .string s, .int .i64 m] w fun e w' => e = .returned (.bool true) ∧ Below w.heap.size w w' := by
  have c1 := fun W => glob_star W s (by omega)
  have c2 := fun W => glob_stars W s (by omega)
  have c3 := fun W => glob_none W
  have c6 := fun W => tame_any W x (by omega)
  have c7 := fun W => ascii_any W x (by omega)
  have c7' := fun W => ascii_any W s (by omega)
  rcases h with h | ⟨h, h2⟩ | ⟨h, h2, h3⟩ | ⟨h, h2, h3, h4⟩
  · rw [h] at c6
    clear h
    go_enter Try.func3, Try.ntmps3
    go_wp2_with (go_at_call 5; refine Stop.mk ?_)
    refine Stop.out ((c1 _).mono ?_); rintro e W1 ⟨rfl, hb1⟩
    go_wp2_with (go_at_call 5; refine Stop.mk ?_)
    refine Stop.out ((c2 _).mono ?_); rintro e W2 ⟨rfl, hb2⟩
    go_wp2_with (go_at_call 5; refine Stop.mk ?_)
    refine Stop.out ((c3 _).mono ?_); rintro e W3 ⟨rfl, hb3⟩
    have hB := (hb1.trans (hb2.mono hb1.size)).trans (hb3.mono (Nat.le_trans hb1.size hb2.size))
    clear hb1 hb2 hb3
    go_wp2_with (go_at_call 6; refine (c6 _).mono ?_; rintro e w' ⟨rfl, rfl⟩)
    go_ret
    exact ⟨rfl, hB⟩
  · rw [h] at c6
    rw [h2] at c7
    clear h h2
    go_enter Try.func3, Try.ntmps3
    go_wp2_with (go_at_call 5; refine Stop.mk ?_)
    refine Stop.out ((c1 _).mono ?_); rintro e W1 ⟨rfl, hb1⟩
    go_wp2_with (go_at_call 5; refine Stop.mk ?_)
    refine Stop.out ((c2 _).mono ?_); rintro e W2 ⟨rfl, hb2⟩
    go_wp2_with (go_at_call 5; refine Stop.mk ?_)
    refine Stop.out ((c3 _).mono ?_); rintro e W3 ⟨rfl, hb3⟩
    have hB := (hb1.trans (hb2.mono hb1.size)).trans (hb3.mono (Nat.le_trans hb1.size hb2.size))
    clear hb1 hb2 hb3
    go_wp2_with (first | (go_at_call 6; refine (c6 _).mono ?_; rintro e w' ⟨rfl, rfl⟩) | (go_at_call 7; refine (c7 _).mono ?_; rintro e w' ⟨rfl, rfl⟩))
    go_ret
    exact ⟨rfl, hB⟩
  · rw [h] at c6
    rw [h2] at c7
    rw [h3] at c7'
    clear h h2 h3
    go_enter Try.func3, Try.ntmps3
    go_wp2_with (go_at_call 5; refine Stop.mk ?_)
    refine Stop.out ((c1 _).mono ?_); rintro e W1 ⟨rfl, hb1⟩
    go_wp2_with (go_at_call 5; refine Stop.mk ?_)
    refine Stop.out ((c2 _).mono ?_); rintro e W2 ⟨rfl, hb2⟩
    go_wp2_with (go_at_call 5; refine Stop.mk ?_)
    refine Stop.out ((c3 _).mono ?_); rintro e W3 ⟨rfl, hb3⟩
    have hB := (hb1.trans (hb2.mono hb1.size)).trans (hb3.mono (Nat.le_trans hb1.size hb2.size))
    clear hb1 hb2 hb3
    go_wp2_with (first | (go_at_call 6; refine (c6 _).mono ?_; rintro e w' ⟨rfl, rfl⟩) | (go_at_call 7; refine Stop.mk ?_))
    refine Stop.out ((c7 _).mono ?_); rintro e w' ⟨rfl, rfl⟩
    go_wp2_with (go_at_call 7; refine Stop.mk ?_)
    refine Stop.out ((c7' _).mono ?_); rintro e w' ⟨rfl, rfl⟩
    go_wp2
    go_ret
    exact ⟨rfl, hB⟩
  · rw [h] at c6
    rw [h2] at c7
    rw [h3] at c7'
    have h4' : (200 : Int) < (s.size : Int) := by omega
    clear h h2 h3
    go_enter Try.func3, Try.ntmps3
    go_wp2_with (go_at_call 5; refine Stop.mk ?_)
    refine Stop.out ((c1 _).mono ?_); rintro e W1 ⟨rfl, hb1⟩
    go_wp2_with (go_at_call 5; refine Stop.mk ?_)
    refine Stop.out ((c2 _).mono ?_); rintro e W2 ⟨rfl, hb2⟩
    go_wp2_with (go_at_call 5; refine Stop.mk ?_)
    refine Stop.out ((c3 _).mono ?_); rintro e W3 ⟨rfl, hb3⟩
    have hB := (hb1.trans (hb2.mono hb1.size)).trans (hb3.mono (Nat.le_trans hb1.size hb2.size))
    clear hb1 hb2 hb3
    go_wp2_with (first | (go_at_call 6; refine (c6 _).mono ?_; rintro e w' ⟨rfl, rfl⟩) | (go_at_call 7; refine Stop.mk ?_))
    refine Stop.out ((c7 _).mono ?_); rintro e w' ⟨rfl, rfl⟩
    go_wp2_with (go_at_call 7; refine Stop.mk ?_)
    refine Stop.out ((c7' _).mono ?_); rintro e w' ⟨rfl, rfl⟩
    go_wp2
    go_ret
    exact ⟨rfl, hB⟩

end Go.Proofs.Ytebpplkofmhdpaa
