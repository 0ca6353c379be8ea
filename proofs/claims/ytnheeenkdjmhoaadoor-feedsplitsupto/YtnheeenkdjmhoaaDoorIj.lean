import Derived.Test.YtnheeenkdjmhoaaDoorQ
/-
  DERIVED. Two lists of lists that hold the same.
-/
namespace Go.Proofs.YtnheeenkdjmhoaaDoor
open Go Go.Proofs Go.RowKit

/-- A row of rows, as it is read. -/
def RdS (w : World) (v : Value) (L : Segs) : Prop :=
  ∃ ao cap, v = .slice ao L.length cap ∧ ∀ k, k < L.length → ∃ g, ao = some ⟨g, 0, none⟩ ∧ ∃ a d, w.cell? ⟨g, k, none⟩ = some (.slice a (L.getD k []).length d) ∧ ∀ j, j < (L.getD k []).length → ∃ q, a = some ⟨q, 0, none⟩ ∧ w.cell? ⟨q, j, none⟩ = some (.string (bs1 ((L.getD k []).getD j [])))
theorem SegsAt.rd {w : World} {B : Nat} {v : Value} {L : Segs} (h : SegsAt w B v L) : RdS w v L := by
  obtain ⟨vals, h1, h2, h3⟩ := h
  obtain ⟨ao, cap, rfl⟩ := own_slice h1
  refine ⟨ao, cap, rfl, fun k hk => ?_⟩
  obtain ⟨g, cp, hv⟩ := owns_pos h1 (by omega)
  simp only [Value.slice.injEq] at hv
  obtain ⟨rfl, _, rfl⟩ := hv
  refine ⟨g, rfl, ?_⟩
  obtain ⟨b, hb⟩ := h3 k hk
  obtain ⟨a, d, hv⟩ := own_slice hb
  refine ⟨a, d, ?_, fun j hj => ?_⟩
  · have := h1.cellAt k (by omega)
    rw [this, ← hv, List.getD_eq_getElem?_getD, List.getElem?_eq_getElem (by omega)]; rfl
  · rw [hv] at hb
    obtain ⟨q, cq, hq⟩ := owns_pos hb (by omega)
    simp only [Value.slice.injEq] at hq
    obtain ⟨rfl, _, rfl⟩ := hq
    refine ⟨q, rfl, ?_⟩
    have := hb.cellAt j (by omega)
    rw [this]
    obtain ⟨P, hP⟩ : ∃ P, L.getD k [] = P := ⟨_, rfl⟩
    rw [hP] at hj ⊢
    rw [strs, List.getElem?_map, List.getElem?_eq_getElem hj, List.getD_eq_getElem?_getD, List.getElem?_eq_getElem hj]; rfl

theorem own_len {w : World} {base n : Nat} {e : TypeId} {size : Nat} {v : Value} {xs : List Value} (h : w.ownsRow base e size v n xs) : n ≤ 9223372036854775807 := by
  rcases h.2 with ⟨_, rfl⟩ | ⟨_, cap, _, _, _, _, h1, h2, _⟩
  · omega
  · unfold maxLen at h2; omega
theorem SegsAt.lens {w : World} {B : Nat} {v : Value} {L : Segs} (h : SegsAt w B v L) : L.length ≤ 9223372036854775807 ∧ ∀ k, k < L.length → (L.getD k []).length ≤ 9223372036854775807 := by
  obtain ⟨vals, h1, _, h3⟩ := h
  exact ⟨own_len h1, fun k hk => by obtain ⟨b, hb⟩ := h3 k hk; exact own_len hb⟩
theorem drew2 (w : World) (a b : Nat) : ∃ m, (w.drewN a).drewN b = w.drewN m := ⟨_, by rw [World.drewN_drewN]⟩
def SmI (w : World) (n : Nat) (iv : Value) (wr : World) : Prop := ∃ k : Nat, k ≤ n ∧ iv = .int .i64 k ∧ ∃ m, wr = w.drewN m

set_option maxRecDepth 100000 in
set_option maxHeartbeats 4000000 in
theorem same_any (w : World) (v1 v2 : Value) (L : Segs) (hL : L.length ≤ 9223372036854775807) (hL2 : ∀ k, k < L.length → (L.getD k []).length ≤ 9223372036854775807) (h1 : RdS w v1 L) (h2 : RdS w v2 L) :
    Calls Tryd.prog 14 #[v1, v2] w fun e w' => e = .returned (.bool true) ∧ ∃ m, w' = w.drewN m := by
  obtain ⟨a1, c1, rfl, r1⟩ := h1
  obtain ⟨a2, c2, rfl, r2⟩ := h2
  obtain ⟨n, hn⟩ : ∃ n, L.length = n := ⟨_, rfl⟩
  rw [hn] at r1 r2 hL hL2 ⊢
  have R1 : Hid (∀ k, k < n → ∃ g, a1 = some ⟨g, 0, none⟩ ∧ ∃ a d, w.cell? ⟨g, k, none⟩ = some (.slice a (L.getD k []).length d) ∧ ∀ j, j < (L.getD k []).length → ∃ q, a = some ⟨q, 0, none⟩ ∧ w.cell? ⟨q, j, none⟩ = some (.string (bs1 ((L.getD k []).getD j [])))) := r1
  have R2 : Hid (∀ k, k < n → ∃ g, a2 = some ⟨g, 0, none⟩ ∧ ∃ a d, w.cell? ⟨g, k, none⟩ = some (.slice a (L.getD k []).length d) ∧ ∀ j, j < (L.getD k []).length → ∃ q, a = some ⟨q, 0, none⟩ ∧ w.cell? ⟨q, j, none⟩ = some (.string (bs1 ((L.getD k []).getD j [])))) := r2
  have H2 : Hid (∀ k, k < n → (L.getD k []).length ≤ 9223372036854775807) := hL2
  clear r1 r2 hL2 hn
  go_enter Tryd.func14, Tryd.ntmps14
  go_wp2
  go_loopw [5] (fun iv wr => SmI w n iv wr) (fun i _ => n - (intOf i).toNat)
  case atStart => exact ⟨0, Nat.zero_le _, rfl, 0, rfl⟩
  case round =>
    obtain ⟨k, hk, rfl, m, rfl⟩ := hrel
    by_cases hkn : k < n
    · obtain ⟨g1, rfl, b1, d1, x1, y1⟩ := R1.out k hkn
      obtain ⟨g2, rfl, b2, d2, x2, y2⟩ := R2.out k hkn
      have hpl := H2.out k hkn
      obtain ⟨P, hP⟩ : ∃ P, L.getD k [] = P := ⟨_, rfl⟩
      rw [hP] at x1 x2 y1 y2 hpl
      clear hP
      have Y1 : Hid (∀ j, j < P.length → ∃ q, b1 = some ⟨q, 0, none⟩ ∧ w.cell? ⟨q, j, none⟩ = some (.string (bs1 (P.getD j [])))) := y1
      have Y2 : Hid (∀ j, j < P.length → ∃ q, b2 = some ⟨q, 0, none⟩ ∧ w.cell? ⟨q, j, none⟩ = some (.string (bs1 (P.getD j [])))) := y2
      clear y1 y2
      go_wp2
      go_quiet (fail)
      go_wp2
      go_loopw [6] (fun iv wr => SmI w P.length iv wr) (fun i _ => P.length - (intOf i).toNat)
      case atStart => exact ⟨0, Nat.zero_le _, rfl, drew2 _ _ _⟩
      case round =>
        obtain ⟨j, hj, rfl, m2, rfl⟩ := hrel
        by_cases hjn : j < P.length
        · obtain ⟨q1, rfl, z1⟩ := Y1.out j hjn
          obtain ⟨q2, rfl, z2⟩ := Y2.out j hjn
          obtain ⟨Z, hZ⟩ : ∃ Z, bs1 (P.getD j []) = Z := ⟨_, rfl⟩
          rw [hZ] at z1 z2
          clear hZ
          go_wp2
          go_quiet (fail)
          go_wp2
          go_roundw
          case rel => exact ⟨j + 1, by omega, by go_num, by first | exact ⟨_, rfl⟩ | exact drew2 _ _ _⟩
          case measure => simp [intOf]; omega
        · have hje : j = P.length := by omega
          clear hj
          go_wp2
          go_roundw
          case rel => exact ⟨k + 1, by omega, by go_num, _, rfl⟩
          case measure => simp [intOf]; omega
    · go_wp2
      exact bodyPost_ret (v := .bool true) (by simp [results, Tryd.results14, go_sem]) rfl ⟨rfl, _, rfl⟩
end Go.Proofs.YtnheeenkdjmhoaaDoor
