import Derived.Test.YtnamkcfmbefkfaaDoorNb
import Derived.Test.YtnamkcfmbefkfaaDoorSb
import Derived.Test.YtnamkcfmbefkfaaDoorVb
/-
  DERIVED. Classes, syntaxes; titles; lengths.
-/
namespace Go.Proofs.YtnamkcfmbefkfaaDoor
open Go Go.Proofs Go.RowKit

/-- Does the server have the class? -/
def svB (s : ByteArray) : Bool := (s.toList == [49, 46, 50, 46, 56, 52, 48, 46, 49, 48, 48, 48, 56, 46, 49, 46, 49]) || (s.toList == [49, 46, 50, 46, 56, 52, 48, 46, 49, 48, 48, 48, 56, 46, 53, 46, 49, 46, 52, 46, 51, 49]) || (s.toList == [49, 46, 50, 46, 56, 52, 48, 46, 49, 48, 48, 48, 56, 46, 51, 46, 49, 46, 50, 46, 51, 46, 51]) || (s.toList == [49, 46, 50, 46, 56, 52, 48, 46, 49, 48, 48, 48, 56, 46, 51, 46, 49, 46, 50, 46, 51, 46, 52])
/-- The number of a syntax. -/
def syN (s : ByteArray) : Int := if (s.toList == [49, 46, 50, 46, 56, 52, 48, 46, 49, 48, 48, 48, 56, 46, 49, 46, 50]) = true then 1 else if (s.toList == [49, 46, 50, 46, 56, 52, 48, 46, 49, 48, 48, 48, 56, 46, 49, 46, 50, 46, 49]) = true then 2 else 0
set_option maxRecDepth 100000 in
theorem serves_any (w : World) (s : ByteArray) : Calls Tryd.prog 29 #[.string s] w fun e w' => e = .returned (.bool (svB s)) ∧ w' = w := by
  unfold svB
  go_enter Tryd.func29, Tryd.ntmps29
  cases h1 : (s.toList == [49, 46, 50, 46, 56, 52, 48, 46, 49, 48, 48, 48, 56, 46, 49, 46, 49])
  · cases h2 : (s.toList == [49, 46, 50, 46, 56, 52, 48, 46, 49, 48, 48, 48, 56, 46, 53, 46, 49, 46, 52, 46, 51, 49])
    · cases h3 : (s.toList == [49, 46, 50, 46, 56, 52, 48, 46, 49, 48, 48, 48, 56, 46, 51, 46, 49, 46, 50, 46, 51, 46, 51])
      · cases h4 : (s.toList == [49, 46, 50, 46, 56, 52, 48, 46, 49, 48, 48, 48, 56, 46, 51, 46, 49, 46, 50, 46, 51, 46, 52])
        all_goals go_wp2
        all_goals go_ret
        all_goals exact ⟨rfl, rfl⟩
      · go_wp2
        go_ret
        exact ⟨rfl, rfl⟩
    · go_wp2
      go_ret
      exact ⟨rfl, rfl⟩
  · go_wp2
    go_ret
    exact ⟨rfl, rfl⟩
set_option maxRecDepth 100000 in
theorem rserves_any (w : World) (s : ByteArray) : Calls Tryd.prog 17 #[.string s] w fun e w' => e = .returned (.bool (svB s)) ∧ w' = w := by
  unfold svB
  go_enter Tryd.func17, Tryd.ntmps17
  cases h1 : (s.toList == [49, 46, 50, 46, 56, 52, 48, 46, 49, 48, 48, 48, 56, 46, 49, 46, 49])
  · cases h2 : (s.toList == [49, 46, 50, 46, 56, 52, 48, 46, 49, 48, 48, 48, 56, 46, 53, 46, 49, 46, 52, 46, 51, 49])
    · cases h3 : (s.toList == [49, 46, 50, 46, 56, 52, 48, 46, 49, 48, 48, 48, 56, 46, 51, 46, 49, 46, 50, 46, 51, 46, 51])
      · cases h4 : (s.toList == [49, 46, 50, 46, 56, 52, 48, 46, 49, 48, 48, 48, 56, 46, 51, 46, 49, 46, 50, 46, 51, 46, 52])
        all_goals go_wp2
        all_goals go_ret
        all_goals exact ⟨rfl, rfl⟩
      · go_wp2
        go_ret
        exact ⟨rfl, rfl⟩
    · go_wp2
      go_ret
      exact ⟨rfl, rfl⟩
  · go_wp2
    go_ret
    exact ⟨rfl, rfl⟩
set_option maxRecDepth 100000 in
theorem syntax_any (w : World) (s : ByteArray) : Calls Tryd.prog 30 #[.string s] w fun e w' => e = .returned (.tuple #[.int .i64 (syN s), .bool (decide (syN s ≠ 0))]) ∧ w' = w := by
  unfold syN
  go_enter Tryd.func30, Tryd.ntmps30
  cases h1 : (s.toList == [49, 46, 50, 46, 56, 52, 48, 46, 49, 48, 48, 48, 56, 46, 49, 46, 50])
  · cases h2 : (s.toList == [49, 46, 50, 46, 56, 52, 48, 46, 49, 48, 48, 48, 56, 46, 49, 46, 50, 46, 49])
    all_goals go_wp2
    · refine bodyPost_ret (v := .tuple #[.int .i64 0, .bool false]) (by simp [results, Tryd.results30, go_sem]) rfl ⟨rfl, rfl⟩
    · refine bodyPost_ret (v := .tuple #[.int .i64 2, .bool true]) (by simp [results, Tryd.results30, go_sem]) rfl ⟨rfl, rfl⟩
  · go_wp2
    refine bodyPost_ret (v := .tuple #[.int .i64 1, .bool true]) (by simp [results, Tryd.results30, go_sem]) rfl ⟨rfl, rfl⟩
set_option maxRecDepth 100000 in
theorem rsyntax_any (w : World) (s : ByteArray) : Calls Tryd.prog 18 #[.string s] w fun e w' => e = .returned (.int .i64 (syN s)) ∧ w' = w := by
  unfold syN
  go_enter Tryd.func18, Tryd.ntmps18
  cases h1 : (s.toList == [49, 46, 50, 46, 56, 52, 48, 46, 49, 48, 48, 48, 56, 46, 49, 46, 50])
  · cases h2 : (s.toList == [49, 46, 50, 46, 56, 52, 48, 46, 49, 48, 48, 48, 56, 46, 49, 46, 50, 46, 49])
    all_goals go_wp2
    all_goals go_ret
    all_goals exact ⟨rfl, rfl⟩
  · go_wp2
    go_ret
    exact ⟨rfl, rfl⟩
/-- Titles that are the same, the spaces around them aside. -/
def sameT (a b : ByteArray) : Bool := (tmT a).toList == (tmT b).toList
set_option maxRecDepth 100000 in
set_option maxHeartbeats 2000000 in
theorem sameT_any (w : World) (a b : ByteArray) (ha : a.size ≤ 140737488351232) (hb : b.size ≤ 140737488351232) : Calls Tryd.prog 26 #[.string a, .string b] w fun e w' => e = .returned (.bool (sameT a b)) ∧ ∃ m, w' = w.drewN m := by
  unfold sameT
  have h1 := fun W => trim_sp W a ha
  have h2 := fun W => trim_sp W b hb
  generalize tmT a = x at h1 ⊢
  generalize tmT b = y at h2 ⊢
  go_enter Tryd.func26, Tryd.ntmps26
  go_wp2_with (go_at_call 34; refine (h1 _).mono ?_; refine Fr.Stop.mk ?_)
  rintro x1 W1 ⟨rfl, m1, rfl⟩
  clear h1
  go_wp2_with (go_at_call 34; refine (h2 _).mono ?_; refine Fr.Stop.mk ?_)
  rintro x2 W2 ⟨rfl, m2, rfl⟩
  go_wp2
  go_ret
  exact ⟨rfl, _, rfl⟩
/-- A row of texts among which a title is sought. -/
def anyT (s : ByteArray) (T : List ByteArray) : Bool := T.any (fun c => sameT s c)
theorem anyT_take (s : ByteArray) (T : List ByteArray) (i : Nat) (h : i < T.length) : anyT s (T.take (i + 1)) = (anyT s (T.take i) || sameT s T[i]) := by
  unfold anyT
  rw [List.take_add_one, List.getElem?_eq_getElem h, List.any_append]
  simp only [Option.toList, List.any_cons, List.any_nil, Bool.or_false]
end Go.Proofs.YtnamkcfmbefkfaaDoor
