import Derived.Test.YtggdlagopgpnhaaDoorVb
import Derived.Deep.RegionHeld3
import Derived.Deep.Cut
/-
  DERIVED. A time's text and PrintTime, by the program.
-/
namespace Go.Proofs.YtggdlagopgpnhaaDoor
open Go Go.Proofs Go.RowKit

/-- A time in memory, and the table. -/
structure Bt (w W : World) (q h m s c p : Nat) : Prop where
  pow : Pow W
  q0 : W.cell? ⟨q, 0, none⟩ = some (.int .i64 (h : Int))
  q1 : W.cell? ⟨q, 1, none⟩ = some (.int .i64 (m : Int))
  q2 : W.cell? ⟨q, 2, none⟩ = some (.int .i64 (s : Int))
  q3 : W.cell? ⟨q, 3, none⟩ = some (.int .i64 (c : Int))
  q4 : W.cell? ⟨q, 4, none⟩ = some (.int .i64 (p : Int))
  bel : Below w.heap.size w W
theorem Bt.next {w W W' : World} {q h m s c p : Nat} (H : Bt w W q h m s c p) (hb : Below W.heap.size W W') : Bt w W' q h m s c p :=
  ⟨H.pow.on hb, (hb.cell (cell_lt H.q0)).trans H.q0, (hb.cell (cell_lt H.q1)).trans H.q1, (hb.cell (cell_lt H.q2)).trans H.q2, (hb.cell (cell_lt H.q3)).trans H.q3, (hb.cell (cell_lt H.q4)).trans H.q4, H.bel.trans (hb.mono H.bel.size)⟩
theorem Bt.drew {w W : World} {q h m s c p : Nat} (H : Bt w W q h m s c p) : Bt w W.drew q h m s c p := ⟨H.pow, H.q0, H.q1, H.q2, H.q3, H.q4, H.bel.drew⟩

def Fit6 (nI kI : Int) : Prop := ∃ n k : Nat, nI = n ∧ kI = k ∧ n < 10 ^ k ∧ 1 ≤ k ∧ k ≤ 6 ∧ n ≤ 999999
def tx6 (h m s : Nat) : ByteArray := pdB h 2 ++ pdB m 2 ++ pdB s 2
theorem tx6_size (h m s : Nat) : (tx6 h m s).size = 6 := by unfold tx6; rw [ByteArray.size_append, ByteArray.size_append, pdB_size, pdB_size, pdB_size]
def tT (h m s c p : Nat) : ByteArray := if p ≤ 3 then (tx6 h m s).extract 0 (2 * p) else tx6 h m s ++ ⟨#[46]⟩ ++ (pdB c 6).extract 0 (p - 3)

set_option maxRecDepth 100000 in
set_option maxHeartbeats 20000000 in
theorem textT_any (w : World) (h m s c p : Nat) (hh : h ≤ 99) (hm : m ≤ 99) (hs : s ≤ 99) (hc : c ≤ 999999) (hp9 : p ≤ 9) (hp : Pow w) :
    Calls Tryd.prog 44 #[t5 h m s c p] w fun e w' => e = .returned (.string (tT h m s c p)) ∧ Below w.heap.size w w' := by
  obtain ⟨W, hW⟩ : ∃ W, w.alloc (.cells #[.int .i64 (h : Int), .int .i64 (m : Int), .int .i64 (s : Int), .int .i64 (c : Int), .int .i64 (p : Int)] 48) = W := ⟨_, rfl⟩
  have hb : Below w.heap.size w W := hW ▸ (Below.refl _ _).alloc (Nat.le_refl _) _
  have b0 : Bt w W w.heap.size h m s c p := ⟨hp.on hb, by rw [← hW]; simp, by rw [← hW]; simp, by rw [← hW]; simp, by rw [← hW]; simp, by rw [← hW]; simp, hb⟩
  have b1 : Bt w W.drew w.heap.size h m s c p := b0.drew
  have q0 := b0.q0
  have q1 := b0.q1
  have q2 := b0.q2
  have q3 := b0.q3
  have q4 := b0.q4
  have hH : Fit6 (h : Int) 2 := ⟨h, 2, rfl, rfl, by omega, by omega, by omega, by omega⟩
  have hM : Fit6 (m : Int) 2 := ⟨m, 2, rfl, rfl, by omega, by omega, by omega, by omega⟩
  have hS : Fit6 (s : Int) 2 := ⟨s, 2, rfl, rfl, by omega, by omega, by omega, by omega⟩
  have hC : Fit6 (c : Int) 6 := ⟨c, 6, rfl, rfl, by omega, by omega, by omega, by omega⟩
  have c53 : ∀ W' nI kI, Fit6 nI kI → Pow W' → Calls Tryd.prog 53 #[.int .i64 nI, .int .i64 kI] W' fun e w' => e = .returned (.string (pdB nI.toNat kI.toNat)) ∧ Below W'.heap.size W' w' := by
    rintro W' _ _ ⟨n, k, rfl, rfl, h1, h2, h3, h4⟩ hP
    exact padded6_any W' n k h1 h2 h3 h4 hP
  have hz1 : (pdB h 2).size = 2 := pdB_size _ _
  have hz2 : (pdB m 2).size = 2 := pdB_size _ _
  have hz3 : (pdB s 2).size = 2 := pdB_size _ _
  have hz6 : (pdB c 6).size = 6 := pdB_size _ _
  have hE : pdB h 2 ++ pdB m 2 ++ pdB s 2 = tx6 h m s := rfl
  have hZ : (tx6 h m s).size = 6 := tx6_size h m s
  unfold tT
  generalize tx6 h m s = E at *
  clear hp hh hm hs hc
  unfold t5
  by_cases hp3 : p ≤ 3
  · rw [if_pos hp3]
    have hpI : decide ((p : Int) ≤ 3) = true := by simp; omega
    have h2p : (2 * (p : Int)) ≤ 6 := by omega
    have h2n : (2 * (p : Int)).toNat = 2 * p := by omega
    clear hC
    go_enter Tryd.func44, Tryd.ntmps44
    go_wp2
    have hB := b1
    clear b0 b1
    go_region_held3 (fun w' => w'.cell? ⟨w.heap.size, 0, none⟩ = some (.int .i64 (h : Int)) ∧ w'.cell? ⟨w.heap.size, 1, none⟩ = some (.int .i64 (m : Int)) ∧ w'.cell? ⟨w.heap.size, 2, none⟩ = some (.int .i64 (s : Int))) (exact ⟨hB.q0, hB.q1, hB.q2⟩) (first | (go_at_call 53; refine (c53 _ _ _ ?_ ?_).mono ?_; (focus (first | exact hH | exact hM | exact hS)); (focus exact hB.pow); rintro e W6 ⟨rfl, hb6⟩; replace hB := hB.next hb6))
    all_goals
      have u4 := hB.q4
      have b9 := hB.bel
      clear c53 hB
      go_wp2
      go_ret
      exact ⟨rfl, b9⟩
  · rw [if_neg hp3]
    have hpI : decide ((p : Int) ≤ 3) = false := by simp; omega
    have hz8 : (E ++ (⟨#[46]⟩ : ByteArray)).size = 7 := by rw [ByteArray.size_append, hZ]; rfl
    have hx9 : ∀ r, r ≤ 6 → ((pdB c 6).extract 0 r).size = r := fun r hr => by rw [ByteArray.size_extract, hz6]; omega
    clear hpI
    rcases (by omega : p = 4 ∨ p = 5 ∨ p = 6 ∨ p = 7 ∨ p = 8 ∨ p = 9) with rfl | rfl | rfl | rfl | rfl | rfl
    · have hz9 := hx9 1 (by omega)
      have hr6 : (1 : Int) ≤ ((pdB c 6).size : Int) := by rw [hz6]; omega
      have hz6b : (pdB (c : Int).toNat (6 : Int).toNat).size = 6 := hz6
      have hr6b : (1 : Int) ≤ ((pdB (c : Int).toNat (6 : Int).toNat).size : Int) := by rw [hz6b]; omega
      clear hx9 hp3 hp9 q4
      have hW2 : w.alloc (.cells #[.int .i64 (h : Int), .int .i64 (m : Int), .int .i64 (s : Int), .int .i64 (c : Int), .int .i64 4] 48) = W := hW
      clear hW
      have q4 : W.cell? ⟨w.heap.size, 4, none⟩ = some (.int .i64 4) := b0.q4
      go_enter Tryd.func44, Tryd.ntmps44
      go_wp2
      have hB := b1
      clear b0 b1
      go_region_held3 (fun w' => w'.cell? ⟨w.heap.size, 0, none⟩ = some (.int .i64 (h : Int)) ∧ w'.cell? ⟨w.heap.size, 1, none⟩ = some (.int .i64 (m : Int)) ∧ w'.cell? ⟨w.heap.size, 2, none⟩ = some (.int .i64 (s : Int))) (exact ⟨hB.q0, hB.q1, hB.q2⟩) (first | (go_at_call 53; refine (c53 _ _ _ ?_ ?_).mono ?_; (focus (first | exact hH | exact hM | exact hS)); (focus exact hB.pow); rintro e W6 ⟨rfl, hb6⟩; replace hB := hB.next hb6))
      all_goals
        clear q0 q1 q2 q3 q4
        have q3 := hB.q3
        have q4 : _ = some (Value.int .i64 4) := hB.q4
        have hB2 := hB.drew
        clear hB
        go_wp2
        have hB := hB2
        clear hB2
        have x3 := hB.q3
        have x4 : _ = some (Value.int .i64 4) := hB.q4
        go_region_with (first | (go_at_call 53; refine (c53 _ _ _ ?_ ?_).mono ?_; (focus exact hC); (focus exact hB.pow); rintro e W6 ⟨rfl, hb6⟩; have b6 := hB.next hb6; have u3 := b6.q3; have u4 : _ = some (Value.int .i64 4) := b6.q4) | fail)
        all_goals
          have b9 := b6.bel
          clear c53 hB
          go_wp2
          go_ret
          exact ⟨rfl, b9⟩
    · have hz9 := hx9 2 (by omega)
      have hr6 : (2 : Int) ≤ ((pdB c 6).size : Int) := by rw [hz6]; omega
      have hz6b : (pdB (c : Int).toNat (6 : Int).toNat).size = 6 := hz6
      have hr6b : (2 : Int) ≤ ((pdB (c : Int).toNat (6 : Int).toNat).size : Int) := by rw [hz6b]; omega
      clear hx9 hp3 hp9 q4
      have hW2 : w.alloc (.cells #[.int .i64 (h : Int), .int .i64 (m : Int), .int .i64 (s : Int), .int .i64 (c : Int), .int .i64 5] 48) = W := hW
      clear hW
      have q4 : W.cell? ⟨w.heap.size, 4, none⟩ = some (.int .i64 5) := b0.q4
      go_enter Tryd.func44, Tryd.ntmps44
      go_wp2
      have hB := b1
      clear b0 b1
      go_region_held3 (fun w' => w'.cell? ⟨w.heap.size, 0, none⟩ = some (.int .i64 (h : Int)) ∧ w'.cell? ⟨w.heap.size, 1, none⟩ = some (.int .i64 (m : Int)) ∧ w'.cell? ⟨w.heap.size, 2, none⟩ = some (.int .i64 (s : Int))) (exact ⟨hB.q0, hB.q1, hB.q2⟩) (first | (go_at_call 53; refine (c53 _ _ _ ?_ ?_).mono ?_; (focus (first | exact hH | exact hM | exact hS)); (focus exact hB.pow); rintro e W6 ⟨rfl, hb6⟩; replace hB := hB.next hb6))
      all_goals
        clear q0 q1 q2 q3 q4
        have q3 := hB.q3
        have q4 : _ = some (Value.int .i64 5) := hB.q4
        have hB2 := hB.drew
        clear hB
        go_wp2
        have hB := hB2
        clear hB2
        have x3 := hB.q3
        have x4 : _ = some (Value.int .i64 5) := hB.q4
        go_region_with (first | (go_at_call 53; refine (c53 _ _ _ ?_ ?_).mono ?_; (focus exact hC); (focus exact hB.pow); rintro e W6 ⟨rfl, hb6⟩; have b6 := hB.next hb6; have u3 := b6.q3; have u4 : _ = some (Value.int .i64 5) := b6.q4) | fail)
        all_goals
          have b9 := b6.bel
          clear c53 hB
          go_wp2
          go_ret
          exact ⟨rfl, b9⟩
    · have hz9 := hx9 3 (by omega)
      have hr6 : (3 : Int) ≤ ((pdB c 6).size : Int) := by rw [hz6]; omega
      have hz6b : (pdB (c : Int).toNat (6 : Int).toNat).size = 6 := hz6
      have hr6b : (3 : Int) ≤ ((pdB (c : Int).toNat (6 : Int).toNat).size : Int) := by rw [hz6b]; omega
      clear hx9 hp3 hp9 q4
      have hW2 : w.alloc (.cells #[.int .i64 (h : Int), .int .i64 (m : Int), .int .i64 (s : Int), .int .i64 (c : Int), .int .i64 6] 48) = W := hW
      clear hW
      have q4 : W.cell? ⟨w.heap.size, 4, none⟩ = some (.int .i64 6) := b0.q4
      go_enter Tryd.func44, Tryd.ntmps44
      go_wp2
      have hB := b1
      clear b0 b1
      go_region_held3 (fun w' => w'.cell? ⟨w.heap.size, 0, none⟩ = some (.int .i64 (h : Int)) ∧ w'.cell? ⟨w.heap.size, 1, none⟩ = some (.int .i64 (m : Int)) ∧ w'.cell? ⟨w.heap.size, 2, none⟩ = some (.int .i64 (s : Int))) (exact ⟨hB.q0, hB.q1, hB.q2⟩) (first | (go_at_call 53; refine (c53 _ _ _ ?_ ?_).mono ?_; (focus (first | exact hH | exact hM | exact hS)); (focus exact hB.pow); rintro e W6 ⟨rfl, hb6⟩; replace hB := hB.next hb6))
      all_goals
        clear q0 q1 q2 q3 q4
        have q3 := hB.q3
        have q4 : _ = some (Value.int .i64 6) := hB.q4
        have hB2 := hB.drew
        clear hB
        go_wp2
        have hB := hB2
        clear hB2
        have x3 := hB.q3
        have x4 : _ = some (Value.int .i64 6) := hB.q4
        go_region_with (first | (go_at_call 53; refine (c53 _ _ _ ?_ ?_).mono ?_; (focus exact hC); (focus exact hB.pow); rintro e W6 ⟨rfl, hb6⟩; have b6 := hB.next hb6; have u3 := b6.q3; have u4 : _ = some (Value.int .i64 6) := b6.q4) | fail)
        all_goals
          have b9 := b6.bel
          clear c53 hB
          go_wp2
          go_ret
          exact ⟨rfl, b9⟩
    · have hz9 := hx9 4 (by omega)
      have hr6 : (4 : Int) ≤ ((pdB c 6).size : Int) := by rw [hz6]; omega
      have hz6b : (pdB (c : Int).toNat (6 : Int).toNat).size = 6 := hz6
      have hr6b : (4 : Int) ≤ ((pdB (c : Int).toNat (6 : Int).toNat).size : Int) := by rw [hz6b]; omega
      clear hx9 hp3 hp9 q4
      have hW2 : w.alloc (.cells #[.int .i64 (h : Int), .int .i64 (m : Int), .int .i64 (s : Int), .int .i64 (c : Int), .int .i64 7] 48) = W := hW
      clear hW
      have q4 : W.cell? ⟨w.heap.size, 4, none⟩ = some (.int .i64 7) := b0.q4
      go_enter Tryd.func44, Tryd.ntmps44
      go_wp2
      have hB := b1
      clear b0 b1
      go_region_held3 (fun w' => w'.cell? ⟨w.heap.size, 0, none⟩ = some (.int .i64 (h : Int)) ∧ w'.cell? ⟨w.heap.size, 1, none⟩ = some (.int .i64 (m : Int)) ∧ w'.cell? ⟨w.heap.size, 2, none⟩ = some (.int .i64 (s : Int))) (exact ⟨hB.q0, hB.q1, hB.q2⟩) (first | (go_at_call 53; refine (c53 _ _ _ ?_ ?_).mono ?_; (focus (first | exact hH | exact hM | exact hS)); (focus exact hB.pow); rintro e W6 ⟨rfl, hb6⟩; replace hB := hB.next hb6))
      all_goals
        clear q0 q1 q2 q3 q4
        have q3 := hB.q3
        have q4 : _ = some (Value.int .i64 7) := hB.q4
        have hB2 := hB.drew
        clear hB
        go_wp2
        have hB := hB2
        clear hB2
        have x3 := hB.q3
        have x4 : _ = some (Value.int .i64 7) := hB.q4
        go_region_with (first | (go_at_call 53; refine (c53 _ _ _ ?_ ?_).mono ?_; (focus exact hC); (focus exact hB.pow); rintro e W6 ⟨rfl, hb6⟩; have b6 := hB.next hb6; have u3 := b6.q3; have u4 : _ = some (Value.int .i64 7) := b6.q4) | fail)
        all_goals
          have b9 := b6.bel
          clear c53 hB
          go_wp2
          go_ret
          exact ⟨rfl, b9⟩
    · have hz9 := hx9 5 (by omega)
      have hr6 : (5 : Int) ≤ ((pdB c 6).size : Int) := by rw [hz6]; omega
      have hz6b : (pdB (c : Int).toNat (6 : Int).toNat).size = 6 := hz6
      have hr6b : (5 : Int) ≤ ((pdB (c : Int).toNat (6 : Int).toNat).size : Int) := by rw [hz6b]; omega
      clear hx9 hp3 hp9 q4
      have hW2 : w.alloc (.cells #[.int .i64 (h : Int), .int .i64 (m : Int), .int .i64 (s : Int), .int .i64 (c : Int), .int .i64 8] 48) = W := hW
      clear hW
      have q4 : W.cell? ⟨w.heap.size, 4, none⟩ = some (.int .i64 8) := b0.q4
      go_enter Tryd.func44, Tryd.ntmps44
      go_wp2
      have hB := b1
      clear b0 b1
      go_region_held3 (fun w' => w'.cell? ⟨w.heap.size, 0, none⟩ = some (.int .i64 (h : Int)) ∧ w'.cell? ⟨w.heap.size, 1, none⟩ = some (.int .i64 (m : Int)) ∧ w'.cell? ⟨w.heap.size, 2, none⟩ = some (.int .i64 (s : Int))) (exact ⟨hB.q0, hB.q1, hB.q2⟩) (first | (go_at_call 53; refine (c53 _ _ _ ?_ ?_).mono ?_; (focus (first | exact hH | exact hM | exact hS)); (focus exact hB.pow); rintro e W6 ⟨rfl, hb6⟩; replace hB := hB.next hb6))
      all_goals
        clear q0 q1 q2 q3 q4
        have q3 := hB.q3
        have q4 : _ = some (Value.int .i64 8) := hB.q4
        have hB2 := hB.drew
        clear hB
        go_wp2
        have hB := hB2
        clear hB2
        have x3 := hB.q3
        have x4 : _ = some (Value.int .i64 8) := hB.q4
        go_region_with (first | (go_at_call 53; refine (c53 _ _ _ ?_ ?_).mono ?_; (focus exact hC); (focus exact hB.pow); rintro e W6 ⟨rfl, hb6⟩; have b6 := hB.next hb6; have u3 := b6.q3; have u4 : _ = some (Value.int .i64 8) := b6.q4) | fail)
        all_goals
          have b9 := b6.bel
          clear c53 hB
          go_wp2
          go_ret
          exact ⟨rfl, b9⟩
    · have hz9 := hx9 6 (by omega)
      have hr6 : (6 : Int) ≤ ((pdB c 6).size : Int) := by rw [hz6]; omega
      have hz6b : (pdB (c : Int).toNat (6 : Int).toNat).size = 6 := hz6
      have hr6b : (6 : Int) ≤ ((pdB (c : Int).toNat (6 : Int).toNat).size : Int) := by rw [hz6b]; omega
      clear hx9 hp3 hp9 q4
      have hW2 : w.alloc (.cells #[.int .i64 (h : Int), .int .i64 (m : Int), .int .i64 (s : Int), .int .i64 (c : Int), .int .i64 9] 48) = W := hW
      clear hW
      have q4 : W.cell? ⟨w.heap.size, 4, none⟩ = some (.int .i64 9) := b0.q4
      go_enter Tryd.func44, Tryd.ntmps44
      go_wp2
      have hB := b1
      clear b0 b1
      go_region_held3 (fun w' => w'.cell? ⟨w.heap.size, 0, none⟩ = some (.int .i64 (h : Int)) ∧ w'.cell? ⟨w.heap.size, 1, none⟩ = some (.int .i64 (m : Int)) ∧ w'.cell? ⟨w.heap.size, 2, none⟩ = some (.int .i64 (s : Int))) (exact ⟨hB.q0, hB.q1, hB.q2⟩) (first | (go_at_call 53; refine (c53 _ _ _ ?_ ?_).mono ?_; (focus (first | exact hH | exact hM | exact hS)); (focus exact hB.pow); rintro e W6 ⟨rfl, hb6⟩; replace hB := hB.next hb6))
      all_goals
        clear q0 q1 q2 q3 q4
        have q3 := hB.q3
        have q4 : _ = some (Value.int .i64 9) := hB.q4
        have hB2 := hB.drew
        clear hB
        go_wp2
        have hB := hB2
        clear hB2
        have x3 := hB.q3
        have x4 : _ = some (Value.int .i64 9) := hB.q4
        go_region_with (first | (go_at_call 53; refine (c53 _ _ _ ?_ ?_).mono ?_; (focus exact hC); (focus exact hB.pow); rintro e W6 ⟨rfl, hb6⟩; have b6 := hB.next hb6; have u3 := b6.q3; have u4 : _ = some (Value.int .i64 9) := b6.q4) | fail)
        all_goals
          have b9 := b6.bel
          clear c53 hB
          go_wp2
          go_ret
          exact ⟨rfl, b9⟩

theorem tT_list (h m s c p : Nat) (hp : p ≤ 3) : (tT h m s c p).data.toList = (pd h 2 ++ pd m 2 ++ pd s 2).take (2 * p) := by
  unfold tT
  rw [if_pos hp, ByteArray.data_extract]
  unfold tx6
  rw [ByteArray.data_append, ByteArray.data_append]
  simp [pdB]
  simp [List.take_append, Nat.sub_sub]
theorem ba_ext {a b : ByteArray} (h : a.data.toList = b.data.toList) : a = b := by
  apply ByteArray.ext
  apply Array.ext'
  exact h
theorem tT_0 (h m s c : Nat) : tT h m s c 0 = ⟨#[]⟩ := ba_ext (by rw [tT_list _ _ _ _ _ (by omega)]; rfl)
theorem tT_1 (h m s c : Nat) : tT h m s c 1 = pdB h 2 := ba_ext (by
  rw [tT_list _ _ _ _ _ (by omega)]
  show _ = (pd h 2).toArray.toList
  rw [List.append_assoc, List.take_append_of_le_length (by rw [pd_len]; omega), List.take_of_length_le (by rw [pd_len]; omega)])
theorem tT_2 (h m s c : Nat) : tT h m s c 2 = pdB h 2 ++ pdB m 2 := ba_ext (by
  rw [tT_list _ _ _ _ _ (by omega), ByteArray.data_append]
  rw [List.take_append_of_le_length (by rw [List.length_append, pd_len, pd_len]; omega), List.take_of_length_le (by rw [List.length_append, pd_len, pd_len]; omega)]
  simp [pdB])
theorem tT_3 (h m s c : Nat) : tT h m s c 3 = pdB h 2 ++ pdB m 2 ++ pdB s 2 := ba_ext (by
  rw [tT_list _ _ _ _ _ (by omega), ByteArray.data_append, ByteArray.data_append]
  rw [List.take_of_length_le (by rw [List.length_append, List.length_append, pd_len, pd_len, pd_len]; omega)]
  simp [pdB])

theorem tN_ok {h m s c p : Int} (hu : tN h m s c p = -1) : ∃ hn mn sn cn pn : Nat, h = hn ∧ m = mn ∧ s = sn ∧ c = cn ∧ p = pn ∧ hn ≤ 23 ∧ mn ≤ 59 ∧ sn ≤ 60 ∧ cn ≤ 999999 ∧ 1 ≤ pn ∧ pn ≤ 9 := by
  unfold tN at hu
  split at hu
  · cases hu
  · split at hu
    · cases hu
    · split at hu
      · cases hu
      · split at hu
        · cases hu
        · split at hu
          · cases hu
          · refine ⟨h.toNat, m.toNat, s.toNat, c.toNat, p.toNat, ?_⟩
            omega
theorem tN_is (h m s c p : Int) : tN h m s c p = -1 ∨ (0 ≤ tN h m s c p ∧ tN h m s c p ≤ 4) := by
  unfold tN
  split
  · omega
  · split
    · omega
    · split
      · omega
      · split
        · omega
        · split <;> omega
def tW (h m s c p : Int) : ByteArray := if tN h m s c p = -1 then tT h.toNat m.toNat s.toNat c.toNat p.toNat else ⟨#[]⟩
def tO (h m s c p : Int) : Option (Int × Int) := if tN h m s c p = -1 then none else some (tN h m s c p, 102)

set_option maxRecDepth 100000 in
set_option maxHeartbeats 1000000 in
theorem prt18_any (w : World) (h m s c p : Int) (hO : Ot w) (hp : Pow w) : Calls Tryd.prog 18 #[t5 h m s c p] w (PostR w (.string (tW h m s c p)) (tO h m s c p)) := by
  obtain ⟨W, hW⟩ : ∃ W, w.alloc (.cells #[.int .i64 h, .int .i64 m, .int .i64 s, .int .i64 c, .int .i64 p] 48) = W := ⟨_, rfl⟩
  have HB : Hid (Below w.heap.size w W) := hW ▸ (Below.refl _ _).alloc (Nat.le_refl _) _
  have hR : W.rowIs w.heap.size 48 5 (fun k => #[Value.int .i64 h, .int .i64 m, .int .i64 s, .int .i64 c, .int .i64 p].getD k undef) := by
    rw [← hW]; exact World.rowIs_alloc w _ 48 _ (row_lit _)
  have HRW : Hid _ := hR
  have q0 : W.cell? ⟨w.heap.size, 0, none⟩ = some (.int .i64 h) := hR.cell (i := 0) (by omega)
  have q1 : W.cell? ⟨w.heap.size, 1, none⟩ = some (.int .i64 m) := hR.cell (i := 1) (by omega)
  have q2 : W.cell? ⟨w.heap.size, 2, none⟩ = some (.int .i64 s) := hR.cell (i := 2) (by omega)
  have q3 : W.cell? ⟨w.heap.size, 3, none⟩ = some (.int .i64 c) := hR.cell (i := 3) (by omega)
  have q4 : W.cell? ⟨w.heap.size, 4, none⟩ = some (.int .i64 p) := hR.cell (i := 4) (by omega)
  have c43 := unfitT_any W h m s c p (hO.on HB.out)
  have HP : Hid (Pow W) := hp.on HB.out
  unfold tW tO
  by_cases hu : tN h m s c p = -1
  · rw [if_pos hu, if_pos hu]
    rw [hu] at c43
    obtain ⟨hn, mn, sn, cn, pn, rfl, rfl, rfl, rfl, rfl, b1, b2, b3, b4, b5, b6⟩ := tN_ok hu
    simp only [Int.toNat_natCast]
    have c44 := fun W' hp' => textT_any W' hn mn sn cn pn (by omega) (by omega) (by omega) b4 b6 hp'
    generalize tT hn mn sn cn pn = X at *
    clear hR hu b1 b2 b3 b4 b5 b6 hO hp
    unfold t5 at *
    go_enter Tryd.func18, Tryd.ntmps18
    go_wp2_with (go_at_call 43; refine Stop.mk ?_)
    refine Stop.out (c43.mono ?_)
    rintro e W2 ⟨rfl, hb2⟩
    have hR2 := row_on HRW.out hb2
    have u0 : W2.cell? ⟨w.heap.size, 0, none⟩ = some (.int .i64 (hn : Int)) := hR2.cell (i := 0) (by omega)
    have u1 : W2.cell? ⟨w.heap.size, 1, none⟩ = some (.int .i64 (mn : Int)) := hR2.cell (i := 1) (by omega)
    have u2 : W2.cell? ⟨w.heap.size, 2, none⟩ = some (.int .i64 (sn : Int)) := hR2.cell (i := 2) (by omega)
    have u3 : W2.cell? ⟨w.heap.size, 3, none⟩ = some (.int .i64 (cn : Int)) := hR2.cell (i := 3) (by omega)
    have u4 : W2.cell? ⟨w.heap.size, 4, none⟩ = some (.int .i64 (pn : Int)) := hR2.cell (i := 4) (by omega)
    have c := c44 W2 (HP.out.on hb2)
    have HB2 : Hid (Below w.heap.size w W2) := HB.out.trans (hb2.mono HB.out.size)
    clear c43 c44 q0 q1 q2 q3 q4 hb2 hR2
    go_wp2_with (go_at_call 44; refine Stop.mk ?_)
    refine Stop.out (c.mono ?_)
    rintro e W3 ⟨rfl, hb3⟩
    have HB3 : Hid (Below w.heap.size w W3) := HB2.out.trans (hb3.mono HB2.out.size)
    clear hb3 c
    go_wp2
    exact bodyPost_ret (v := .tuple #[.string X, .nilIface]) (by simp [results, Tryd.results18, go_sem]) rfl ⟨_, rfl, rfl, HB3.out⟩
  · rw [if_neg hu, if_neg hu]
    generalize tN h m s c p = U at *
    have hUI : (U != -1) = true := by simpa using hu
    have c24 := fun W' => refusal_any U 102 W'
    clear hR hu hO hp HRW
    unfold t5 at *
    go_enter Tryd.func18, Tryd.ntmps18
    go_wp2_with (go_at_call 43; refine Stop.mk ?_)
    refine Stop.out (c43.mono ?_)
    rintro e W2 ⟨rfl, hb2⟩
    have HB2 : Hid (Below w.heap.size w W2) := HB.out.trans (hb2.mono HB.out.size)
    clear c43 q0 q1 q2 q3 q4 hb2
    go_wp2_with (go_at_call 24; refine Stop.mk ?_)
    refine Stop.out ((c24 _).mono ?_)
    rintro e W3 ⟨v, rfl, hv, hb3⟩
    have HB3 : Hid (Below w.heap.size w W3) := HB2.out.trans (hb3.mono HB2.out.size)
    have HV : Hid (PErr W3 v (some (U, 102))) := hv
    clear hb3 c24 hv
    go_wp2
    exact bodyPost_ret (v := .tuple #[.string ⟨#[]⟩, v]) (by simp [results, Tryd.results18, go_sem]) rfl ⟨_, rfl, HV.out, HB3.out⟩
end Go.Proofs.YtggdlagopgpnhaaDoor
