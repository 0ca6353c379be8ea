import Derived.Test.YtohojghndnfgdaaGreatDoorQVb
import Derived.Deep.RegionHeld3
import Derived.Deep.Cut
/-
  DERIVED. A time's text and PrintTime, by the program.
-/
namespace Go.Proofs.YtohojghndnfgdaaGreatDoor.Tm
open Go Go.Proofs Go.RowKit

/-- A time in memory, and the table. -/
structure Bt (w W : World) (q h m s c p : Nat) : Prop where
  pow : Pow W
  q0 : W.cell? ⟨q, 0, none⟩ = some (.int .i64 (h : Int))
  q1 : W.cell? ⟨q, 1, none⟩ = some (.int .i64 (m : Int))
  q2 : W.cell? ⟨q, 2, none⟩ = some (.int .i64 (s : Int))
  q3 : W.cell? ⟨q, 3, none⟩ = some (.int .i64 (c : Int))
  q4 : W.cell? ⟨q, 4, none⟩ = some (.int .i64 (p : Int))
  bel : Below w.heap.size w W
theorem Bt.next {w W W' : World} {q h m s c p : Nat} (H : Bt w W q h m s c p) (hb : Below W.heap.size W W') : Bt w W' q h m s c p :=
  ⟨H.pow.on hb, (hb.cell (cell_lt H.q0)).trans H.q0, (hb.cell (cell_lt H.q1)).trans H.q1, (hb.cell (cell_lt H.q2)).trans H.q2, (hb.cell (cell_lt H.q3)).trans H.q3, (hb.cell (cell_lt H.q4)).trans H.q4, H.bel.trans (hb.mono H.bel.size)⟩
theorem Bt.drew {w W : World} {q h m s c p : Nat} (H : Bt w W q h m s c p) : Bt w W.drew q h m s c p := ⟨H.pow, H.q0, H.q1, H.q2, H.q3, H.q4, H.bel.drew⟩

def Fit6 (nI kI : Int) : Prop := ∃ n k : Nat, nI = n ∧ kI = k ∧ n < 10 ^ k ∧ 1 ≤ k ∧ k ≤ 6 ∧ n ≤ 999999
def tx6 (h m s : Nat) : ByteArray := pdB h 2 ++ pdB m 2 ++ pdB s 2
theorem tx6_size (h m s : Nat) : (tx6 h m s).size = 6 := by unfold tx6; rw [ByteArray.size_append, ByteArray.size_append, pdB_size, pdB_size, pdB_size]
def tT (h m s c p : Nat) : ByteArray := if p ≤ 3 then (tx6 h m s).extract 0 (2 * p) else tx6 h m s ++ ⟨#[46]⟩ ++ (pdB c 6).extract 0 (p - 3)

set_option maxRecDepth 100000 in
set_option maxHeartbeats 20000000 in
theorem textT_any (w : World) (h m s c p : Nat) (hh : h ≤ 99) (hm : m ≤ 99) (hs : s ≤ 99) (hc : c ≤ 999999) (hp9 : p ≤ 9) (hp : Pow w) :
    Calls Tryz.prog 16 #[t5 h m s c p] w fun e w' => e = .returned (.string (tT h m s c p)) ∧ Below w.heap.size w w' := by
  obtain ⟨W, hW⟩ : ∃ W, w.alloc (.cells #[.int .i64 (h : Int), .int .i64 (m : Int), .int .i64 (s : Int), .int .i64 (c : Int), .int .i64 (p : Int)] 29) = W := ⟨_, rfl⟩
  have hb : Below w.heap.size w W := hW ▸ (Below.refl _ _).alloc (Nat.le_refl _) _
  have b0 : Bt w W w.heap.size h m s c p := ⟨hp.on hb, by rw [← hW]; simp, by rw [← hW]; simp, by rw [← hW]; simp, by rw [← hW]; simp, by rw [← hW]; simp, hb⟩
  have b1 : Bt w W.drew w.heap.size h m s c p := b0.drew
  have q0 := b0.q0
  have q1 := b0.q1
  have q2 := b0.q2
  have q3 := b0.q3
  have q4 := b0.q4
  have hH : Fit6 (h : Int) 2 := ⟨h, 2, rfl, rfl, by omega, by omega, by omega, by omega⟩
  have hM : Fit6 (m : Int) 2 := ⟨m, 2, rfl, rfl, by omega, by omega, by omega, by omega⟩
  have hS : Fit6 (s : Int) 2 := ⟨s, 2, rfl, rfl, by omega, by omega, by omega, by omega⟩
  have hC : Fit6 (c : Int) 6 := ⟨c, 6, rfl, rfl, by omega, by omega, by omega, by omega⟩
  have c53 : ∀ W' nI kI, Fit6 nI kI → Pow W' → Calls Tryz.prog 39 #[.int .i64 nI, .int .i64 kI] W' fun e w' => e = .returned (.string (pdB nI.toNat kI.toNat)) ∧ Below W'.heap.size W' w' := by
    rintro W' _ _ ⟨n, k, rfl, rfl, h1, h2, h3, h4⟩ hP
    exact padded6_any W' n k h1 h2 h3 h4 hP
  have hz1 : (pdB h 2).size = 2 := pdB_size _ _
  have hz2 : (pdB m 2).size = 2 := pdB_size _ _
  have hz3 : (pdB s 2).size = 2 := pdB_size _ _
  have hz6 : (pdB c 6).size = 6 := pdB_size _ _
  have hE : pdB h 2 ++ pdB m 2 ++ pdB s 2 = tx6 h m s := rfl
  have hZ : (tx6 h m s).size = 6 := tx6_size h m s
  unfold tT
  generalize tx6 h m s = E at *
  clear hp hh hm hs hc
  unfold t5
  by_cases hp3 : p ≤ 3
  · rw [if_pos hp3]
    have hpI : decide ((p : Int) ≤ 3) = true := by simp; omega
    have h2p : (2 * (p : Int)) ≤ 6 := by omega
    have h2n : (2 * (p : Int)).toNat = 2 * p := by omega
    clear hC
    go_enter Tryz.func16, Tryz.ntmps16
    go_wp2
    have hB := b1
    clear b0 b1
    go_region_held3 (fun w' => w'.cell? ⟨w.heap.size, 0, none⟩ = some (.int .i64 (h : Int)) ∧ w'.cell? ⟨w.heap.size, 1, none⟩ = some (.int .i64 (m : Int)) ∧ w'.cell? ⟨w.heap.size, 2, none⟩ = some (.int .i64 (s : Int))) (exact ⟨hB.q0, hB.q1, hB.q2⟩) (first | (go_at_call 39; refine (c53 _ _ _ ?_ ?_).mono ?_; (focus (first | exact hH | exact hM | exact hS)); (focus exact hB.pow); rintro e W6 ⟨rfl, hb6⟩; replace hB := hB.next hb6))
    all_goals
      have u4 := hB.q4
      have b9 := hB.bel
      clear c53 hB
      go_wp2
      go_ret
      exact ⟨rfl, b9⟩
  · rw [if_neg hp3]
    have hpI : decide ((p : Int) ≤ 3) = false := by simp; omega
    have hz8 : (E ++ (⟨#[46]⟩ : ByteArray)).size = 7 := by rw [ByteArray.size_append, hZ]; rfl
    have hx9 : ∀ r, r ≤ 6 → ((pdB c 6).extract 0 r).size = r := fun r hr => by rw [ByteArray.size_extract, hz6]; omega
    clear hpI
    rcases (by omega : p = 4 ∨ p = 5 ∨ p = 6 ∨ p = 7 ∨ p = 8 ∨ p = 9) with rfl | rfl | rfl | rfl | rfl | rfl
    · have hz9 := hx9 1 (by omega)
      have hr6 : (1 : Int) ≤ ((pdB c 6).size : Int) := by rw [hz6]; omega
      have hz6b : (pdB (c : Int).toNat (6 : Int).toNat).size = 6 := hz6
      have hr6b : (1 : Int) ≤ ((pdB (c : Int).toNat (6 : Int).toNat).size : Int) := by rw [hz6b]; omega
      clear hx9 hp3 hp9 q4
      have hW2 : w.alloc (.cells #[.int .i64 (h : Int), .int .i64 (m : Int), .int .i64 (s : Int), .int .i64 (c : Int), .int .i64 4] 29) = W := hW
      clear hW
      have q4 : W.cell? ⟨w.heap.size, 4, none⟩ = some (.int .i64 4) := b0.q4
      go_enter Tryz.func16, Tryz.ntmps16
      go_wp2
      have hB := b1
      clear b0 b1
      go_region_held3 (fun w' => w'.cell? ⟨w.heap.size, 0, none⟩ = some (.int .i64 (h : Int)) ∧ w'.cell? ⟨w.heap.size, 1, none⟩ = some (.int .i64 (m : Int)) ∧ w'.cell? ⟨w.heap.size, 2, none⟩ = some (.int .i64 (s : Int))) (exact ⟨hB.q0, hB.q1, hB.q2⟩) (first | (go_at_call 39; refine (c53 _ _ _ ?_ ?_).mono ?_; (focus (first | exact hH | exact hM | exact hS)); (focus exact hB.pow); rintro e W6 ⟨rfl, hb6⟩; replace hB := hB.next hb6))
      all_goals
        clear q0 q1 q2 q3 q4
        have q3 := hB.q3
        have q4 : _ = some (Value.int .i64 4) := hB.q4
        have hB2 := hB.drew
        clear hB
        go_wp2
        have hB := hB2
        clear hB2
        have x3 := hB.q3
        have x4 : _ = some (Value.int .i64 4) := hB.q4
        go_region_with (first | (go_at_call 39; refine (c53 _ _ _ ?_ ?_).mono ?_; (focus exact hC); (focus exact hB.pow); rintro e W6 ⟨rfl, hb6⟩; have b6 := hB.next hb6; have u3 := b6.q3; have u4 : _ = some (Value.int .i64 4) := b6.q4) | fail)
        all_goals
          have b9 := b6.bel
          clear c53 hB
          go_wp2
          go_ret
          exact ⟨rfl, b9⟩
    · have hz9 := hx9 2 (by omega)
      have hr6 : (2 : Int) ≤ ((pdB c 6).size : Int) := by rw [hz6]; omega
      have hz6b : (pdB (c : Int).toNat (6 : Int).toNat).size = 6 := hz6
      have hr6b : (2 : Int) ≤ ((pdB (c : Int).toNat (6 : Int).toNat).size : Int) := by rw [hz6b]; omega
      clear hx9 hp3 hp9 q4
      have hW2 : w.alloc (.cells #[.int .i64 (h : Int), .int .i64 (m : Int), .int .i64 (s : Int), .int .i64 (c : Int), .int .i64 5] 29) = W := hW
      clear hW
      have q4 : W.cell? ⟨w.heap.size, 4, none⟩ = some (.int .i64 5) := b0.q4
      go_enter Tryz.func16, Tryz.ntmps16
      go_wp2
      have hB := b1
      clear b0 b1
      go_region_held3 (fun w' => w'.cell? ⟨w.heap.size, 0, none⟩ = some (.int .i64 (h : Int)) ∧ w'.cell? ⟨w.heap.size, 1, none⟩ = some (.int .i64 (m : Int)) ∧ w'.cell? ⟨w.heap.size, 2, none⟩ = some (.int .i64 (s : Int))) (exact ⟨hB.q0, hB.q1, hB.q2⟩) (first | (go_at_call 39; refine (c53 _ _ _ ?_ ?_).mono ?_; (focus (first | exact hH | exact hM | exact hS)); (focus exact hB.pow); rintro e W6 ⟨rfl, hb6⟩; replace hB := hB.next hb6))
      all_goals
        clear q0 q1 q2 q3 q4
        have q3 := hB.q3
        have q4 : _ = some (Value.int .i64 5) := hB.q4
        have hB2 := hB.drew
        clear hB
        go_wp2
        have hB := hB2
        clear hB2
        have x3 := hB.q3
        have x4 : _ = some (Value.int .i64 5) := hB.q4
        go_region_with (first | (go_at_call 39; refine (c53 _ _ _ ?_ ?_).mono ?_; (focus exact hC); (focus exact hB.pow); rintro e W6 ⟨rfl, hb6⟩; have b6 := hB.next hb6; have u3 := b6.q3; have u4 : _ = some (Value.int .i64 5) := b6.q4) | fail)
        all_goals
          have b9 := b6.bel
          clear c53 hB
          go_wp2
          go_ret
          exact ⟨rfl, b9⟩
    · have hz9 := hx9 3 (by omega)
      have hr6 : (3 : Int) ≤ ((pdB c 6).size : Int) := by rw [hz6]; omega
      have hz6b : (pdB (c : Int).toNat (6 : Int).toNat).size = 6 := hz6
      have hr6b : (3 : Int) ≤ ((pdB (c : Int).toNat (6 : Int).toNat).size : Int) := by rw [hz6b]; omega
      clear hx9 hp3 hp9 q4
      have hW2 : w.alloc (.cells #[.int .i64 (h : Int), .int .i64 (m : Int), .int .i64 (s : Int), .int .i64 (c : Int), .int .i64 6] 29) = W := hW
      clear hW
      have q4 : W.cell? ⟨w.heap.size, 4, none⟩ = some (.int .i64 6) := b0.q4
      go_enter Tryz.func16, Tryz.ntmps16
      go_wp2
      have hB := b1
      clear b0 b1
      go_region_held3 (fun w' => w'.cell? ⟨w.heap.size, 0, none⟩ = some (.int .i64 (h : Int)) ∧ w'.cell? ⟨w.heap.size, 1, none⟩ = some (.int .i64 (m : Int)) ∧ w'.cell? ⟨w.heap.size, 2, none⟩ = some (.int .i64 (s : Int))) (exact ⟨hB.q0, hB.q1, hB.q2⟩) (first | (go_at_call 39; refine (c53 _ _ _ ?_ ?_).mono ?_; (focus (first | exact hH | exact hM | exact hS)); (focus exact hB.pow); rintro e W6 ⟨rfl, hb6⟩; replace hB := hB.next hb6))
      all_goals
        clear q0 q1 q2 q3 q4
        have q3 := hB.q3
        have q4 : _ = some (Value.int .i64 6) := hB.q4
        have hB2 := hB.drew
        clear hB
        go_wp2
        have hB := hB2
        clear hB2
        have x3 := hB.q3
        have x4 : _ = some (Value.int .i64 6) := hB.q4
        go_region_with (first | (go_at_call 39; refine (c53 _ _ _ ?_ ?_).mono ?_; (focus exact hC); (focus exact hB.pow); rintro e W6 ⟨rfl, hb6⟩; have b6 := hB.next hb6; have u3 := b6.q3; have u4 : _ = some (Value.int .i64 6) := b6.q4) | fail)
        all_goals
          have b9 := b6.bel
          clear c53 hB
          go_wp2
          go_ret
          exact ⟨rfl, b9⟩
    · have hz9 := hx9 4 (by omega)
      have hr6 : (4 : Int) ≤ ((pdB c 6).size : Int) := by rw [hz6]; omega
      have hz6b : (pdB (c : Int).toNat (6 : Int).toNat).size = 6 := hz6
      have hr6b : (4 : Int) ≤ ((pdB (c : Int).toNat (6 : Int).toNat).size : Int) := by rw [hz6b]; omega
      clear hx9 hp3 hp9 q4
      have hW2 : w.alloc (.cells #[.int .i64 (h : Int), .int .i64 (m : Int), .int .i64 (s : Int), .int .i64 (c : Int), .int .i64 7] 29) = W := hW
      clear hW
      have q4 : W.cell? ⟨w.heap.size, 4, none⟩ = some (.int .i64 7) := b0.q4
      go_enter Tryz.func16, Tryz.ntmps16
      go_wp2
      have hB := b1
      clear b0 b1
      go_region_held3 (fun w' => w'.cell? ⟨w.heap.size, 0, none⟩ = some (.int .i64 (h : Int)) ∧ w'.cell? ⟨w.heap.size, 1, none⟩ = some (.int .i64 (m : Int)) ∧ w'.cell? ⟨w.heap.size, 2, none⟩ = some (.int .i64 (s : Int))) (exact ⟨hB.q0, hB.q1, hB.q2⟩) (first | (go_at_call 39; refine (c53 _ _ _ ?_ ?_).mono ?_; (focus (first | exact hH | exact hM | exact hS)); (focus exact hB.pow); rintro e W6 ⟨rfl, hb6⟩; replace hB := hB.next hb6))
      all_goals
        clear q0 q1 q2 q3 q4
        have q3 := hB.q3
        have q4 : _ = some (Value.int .i64 7) := hB.q4
        have hB2 := hB.drew
        clear hB
        go_wp2
        have hB := hB2
        clear hB2
        have x3 := hB.q3
        have x4 : _ = some (Value.int .i64 7) := hB.q4
        go_region_with (first | (go_at_call 39; refine (c53 _ _ _ ?_ ?_).mono ?_; (focus exact hC); (focus exact hB.pow); rintro e W6 ⟨rfl, hb6⟩; have b6 := hB.next hb6; have u3 := b6.q3; have u4 : _ = some (Value.int .i64 7) := b6.q4) | fail)
        all_goals
          have b9 := b6.bel
          clear c53 hB
          go_wp2
          go_ret
          exact ⟨rfl, b9⟩
    · have hz9 := hx9 5 (by omega)
      have hr6 : (5 : Int) ≤ ((pdB c 6).size : Int) := by rw [hz6]; omega
      have hz6b : (pdB (c : Int).toNat (6 : Int).toNat).size = 6 := hz6
      have hr6b : (5 : Int) ≤ ((pdB (c : Int).toNat (6 : Int).toNat).size : Int) := by rw [hz6b]; omega
      clear hx9 hp3 hp9 q4
      have hW2 : w.alloc (.cells #[.int .i64 (h : Int), .int .i64 (m : Int), .int .i64 (s : Int), .int .i64 (c : Int), .int .i64 8] 29) = W := hW
      clear hW
      have q4 : W.cell? ⟨w.heap.size, 4, none⟩ = some (.int .i64 8) := b0.q4
      go_enter Tryz.func16, Tryz.ntmps16
      go_wp2
      have hB := b1
      clear b0 b1
      go_region_held3 (fun w' => w'.cell? ⟨w.heap.size, 0, none⟩ = some (.int .i64 (h : Int)) ∧ w'.cell? ⟨w.heap.size, 1, none⟩ = some (.int .i64 (m : Int)) ∧ w'.cell? ⟨w.heap.size, 2, none⟩ = some (.int .i64 (s : Int))) (exact ⟨hB.q0, hB.q1, hB.q2⟩) (first | (go_at_call 39; refine (c53 _ _ _ ?_ ?_).mono ?_; (focus (first | exact hH | exact hM | exact hS)); (focus exact hB.pow); rintro e W6 ⟨rfl, hb6⟩; replace hB := hB.next hb6))
      all_goals
        clear q0 q1 q2 q3 q4
        have q3 := hB.q3
        have q4 : _ = some (Value.int .i64 8) := hB.q4
        have hB2 := hB.drew
        clear hB
        go_wp2
        have hB := hB2
        clear hB2
        have x3 := hB.q3
        have x4 : _ = some (Value.int .i64 8) := hB.q4
        go_region_with (first | (go_at_call 39; refine (c53 _ _ _ ?_ ?_).mono ?_; (focus exact hC); (focus exact hB.pow); rintro e W6 ⟨rfl, hb6⟩; have b6 := hB.next hb6; have u3 := b6.q3; have u4 : _ = some (Value.int .i64 8) := b6.q4) | fail)
        all_goals
          have b9 := b6.bel
          clear c53 hB
          go_wp2
          go_ret
          exact ⟨rfl, b9⟩
    · have hz9 := hx9 6 (by omega)
      have hr6 : (6 : Int) ≤ ((pdB c 6).size : Int) := by rw [hz6]; omega
      have hz6b : (pdB (c : Int).toNat (6 : Int).toNat).size = 6 := hz6
      have hr6b : (6 : Int) ≤ ((pdB (c : Int).toNat (6 : Int).toNat).size : Int) := by rw [hz6b]; omega
      clear hx9 hp3 hp9 q4
      have hW2 : w.alloc (.cells #[.int .i64 (h : Int), .int .i64 (m : Int), .int .i64 (s : Int), .int .i64 (c : Int), .int .i64 9] 29) = W := hW
      clear hW
      have q4 : W.cell? ⟨w.heap.size, 4, none⟩ = some (.int .i64 9) := b0.q4
      go_enter Tryz.func16, Tryz.ntmps16
      go_wp2
      have hB := b1
      clear b0 b1
      go_region_held3 (fun w' => w'.cell? ⟨w.heap.size, 0, none⟩ = some (.int .i64 (h : Int)) ∧ w'.cell? ⟨w.heap.size, 1, none⟩ = some (.int .i64 (m : Int)) ∧ w'.cell? ⟨w.heap.size, 2, none⟩ = some (.int .i64 (s : Int))) (exact ⟨hB.q0, hB.q1, hB.q2⟩) (first | (go_at_call 39; refine (c53 _ _ _ ?_ ?_).mono ?_; (focus (first | exact hH | exact hM | exact hS)); (focus exact hB.pow); rintro e W6 ⟨rfl, hb6⟩; replace hB := hB.next hb6))
      all_goals
        clear q0 q1 q2 q3 q4
        have q3 := hB.q3
        have q4 : _ = some (Value.int .i64 9) := hB.q4
        have hB2 := hB.drew
        clear hB
        go_wp2
        have hB := hB2
        clear hB2
        have x3 := hB.q3
        have x4 : _ = some (Value.int .i64 9) := hB.q4
        go_region_with (first | (go_at_call 39; refine (c53 _ _ _ ?_ ?_).mono ?_; (focus exact hC); (focus exact hB.pow); rintro e W6 ⟨rfl, hb6⟩; have b6 := hB.next hb6; have u3 := b6.q3; have u4 : _ = some (Value.int .i64 9) := b6.q4) | fail)
        all_goals
          have b9 := b6.bel
          clear c53 hB
          go_wp2
          go_ret
          exact ⟨rfl, b9⟩
end Go.Proofs.YtohojghndnfgdaaGreatDoor.Tm
