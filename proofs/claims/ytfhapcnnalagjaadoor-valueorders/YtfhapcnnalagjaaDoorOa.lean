import Derived.Test.YtfhapcnnalagjaaDoorC
/-
  DERIVED. Comparing, ticks.
-/
namespace Go.Proofs.YtfhapcnnalagjaaDoor
open Go Go.Proofs Go.RowKit

/-- How two numbers stand to each other. -/
def cm (x y : Int) : Int := if x < y then -1 else if y < x then 1 else 0

theorem nan_any (w : World) (x : Int) : Calls Tryd.prog 10 #[.int .i64 x] w fun e w' => e = .returned (.bool false) ∧ w = w' := by
  have hx : (x != x) = false := by simp
  go_enter Tryd.func10, Tryd.ntmps10
  go_wp2
  go_ret
  exact ⟨rfl, rfl⟩

set_option maxRecDepth 100000 in
theorem cmp_any (w : World) (x y : Int) : Calls Tryd.prog 7 #[.int .i64 x, .int .i64 y] w fun e w' => e = .returned (.int .i64 (cm x y)) ∧ w = w' := by
  have c1 := fun W => nan_any W x
  have c2 := fun W => nan_any W y
  unfold cm
  by_cases h1 : x < y
  · rw [if_pos h1]
    go_enter Tryd.func7, Tryd.ntmps7
    go_wp2_with (go_at_call 10; first | (refine (c1 _).mono ?_; rintro e w' ⟨rfl, rfl⟩) | (refine (c2 _).mono ?_; rintro e w' ⟨rfl, rfl⟩))
    go_ret
    exact ⟨rfl, rfl⟩
  · rw [if_neg h1]
    by_cases h2 : y < x
    · rw [if_pos h2]
      go_enter Tryd.func7, Tryd.ntmps7
      go_wp2_with (go_at_call 10; first | (refine (c1 _).mono ?_; rintro e w' ⟨rfl, rfl⟩) | (refine (c2 _).mono ?_; rintro e w' ⟨rfl, rfl⟩))
      go_ret
      exact ⟨rfl, rfl⟩
    · rw [if_neg h2]
      go_enter Tryd.func7, Tryd.ntmps7
      go_wp2_with (go_at_call 10; first | (refine (c1 _).mono ?_; rintro e w' ⟨rfl, rfl⟩) | (refine (c2 _).mono ?_; rintro e w' ⟨rfl, rfl⟩))
      go_ret
      exact ⟨rfl, rfl⟩

theorem ticks_any (w : World) (n : Nat) (h : n ≤ 3700000) : Calls Tryd.prog 16 #[.int .i64 (n : Int)] w fun e w' => e = .returned (.int .i64 ((n * 87840000000 : Nat) : Int)) ∧ w = w' := by
  go_enter Tryd.func16, Tryd.ntmps16
  go_wp2
  go_ret
  exact ⟨by simp, rfl⟩

/-- A time of the day, and its first tick. -/
def v5 (h m s c p : Int) : Value := .agg #[.int .i64 h, .int .i64 m, .int .i64 s, .int .i64 c, .int .i64 p]
def tt (h m s c : Nat) : Nat := (60 * h + m) * 61000000 + s * 1000000 + c

set_option maxRecDepth 100000 in
theorem tick_any (w : World) (h m s c p : Nat) (h1 : h ≤ 99) (h2 : m ≤ 99) (h3 : s ≤ 99) (h4 : c ≤ 999999) : Calls Tryd.prog 25 #[v5 h m s c p] w fun e w' => e = .returned (.int .i64 (tt h m s c : Nat)) ∧ Below w.heap.size w w' := by
  unfold v5 tt
  go_enter Tryd.func25, Tryd.ntmps25
  go_wp2
  go_ret
  refine ⟨?_, ?_⟩
  · simp
  · exact (Below.refl _ _).alloc (Nat.le_refl _) _


/-- The first of two numbers that is not 0. -/
def orI (a b : Int) : Int := if a = 0 then b else a

set_option maxRecDepth 100000 in
theorem or_any (w : World) (r : Nat) (a b : Int) (h0 : w.cell? ⟨r, 0, none⟩ = some (.int .i64 a)) (h1 : w.cell? ⟨r, 1, none⟩ = some (.int .i64 b)) :
    Calls Tryd.prog 6 #[.slice (some ⟨r, 0, none⟩) 2 2] w fun e w' => e = .returned (.int .i64 (orI a b)) ∧ Below w.heap.size w w' := by
  go_enter Tryd.func6, Tryd.ntmps6
  go_wp2
  go_loopg [8] 2 (fun g s8 wx => ∃ (i : Nat), s8 = .int .i64 (i : Int) ∧ g + i = 2 ∧ (0 < i → a = 0) ∧ (1 < i → b = 0) ∧ (∃ n, w.drewN n = wx))
  case atStart => exact ⟨0, rfl, by omega, by omega, by omega, 0, rfl⟩
  case round =>
    obtain ⟨i, rfl, hg, ha, hb, n, rfl⟩ := hrel
    have hi : i = 0 ∨ i = 1 ∨ i = 2 := by omega
    rcases hi with rfl | rfl | rfl
    · have hcell : (w.drewN n).cell? ⟨r, 0, none⟩ = some (.int .i64 a) := h0
      by_cases e : a = 0
      · have e1 : (a != 0) = false := by simpa using e
        go_wp2
        go_roundg 1
        case measure => omega
        case rel => exact ⟨1, rfl, by omega, fun _ => e, by omega, _, rfl⟩
      · have e1 : (a != 0) = true := by simpa using e
        go_wp2
        go_ret
        exact ⟨by unfold orI; rw [if_neg e]; rfl, below_drewN (Below.refl _ _) _⟩
    · obtain rfl := ha (by omega)
      have hcell : (w.drewN n).cell? ⟨r, 1, none⟩ = some (.int .i64 b) := h1
      by_cases e : b = 0
      · have e1 : (b != 0) = false := by simpa using e
        go_wp2
        go_roundg 0
        case measure => omega
        case rel => exact ⟨2, rfl, by omega, fun _ => by trivial, fun _ => e, _, rfl⟩
      · have e1 : (b != 0) = true := by simpa using e
        go_wp2
        go_ret
        exact ⟨by unfold orI; rw [if_pos rfl]; rfl, below_drewN (Below.refl _ _) _⟩
    · obtain rfl := ha (by omega)
      obtain rfl := hb (by omega)
      go_wp2
      go_ret
      exact ⟨rfl, below_drewN (Below.refl _ _) _⟩

/-- The table of ticks. -/
def tk : Nat → Int := fun k => #[(87840000000 : Int), 3660000000, 61000000, 1000000, 100000, 10000, 1000, 100, 10, 1].getD k 0
structure Ot (w : World) : Prop where
  p : ∀ i, i < 10 → w.cell? ⟨0, i, none⟩ = some (.int .i64 (tk i))
theorem Ot.on {w w' : World} (h : Ot w) (hb : Below w.heap.size w w') : Ot w' := ⟨fun i hi => (hb.cell (cell_lt (h.p i hi))).trans (h.p i hi)⟩
theorem tk_pos {p : Nat} (h9 : p ≤ 9) : 0 < tk p ∧ tk p ≤ 87840000000 := by
  rcases (by omega : p = 0 ∨ p = 1 ∨ p = 2 ∨ p = 3 ∨ p = 4 ∨ p = 5 ∨ p = 6 ∨ p = 7 ∨ p = 8 ∨ p = 9) with rfl | rfl | rfl | rfl | rfl | rfl | rfl | rfl | rfl | rfl <;> decide

set_option maxRecDepth 100000 in
theorem grain_any (w : World) (p : Nat) (h4 : 3 ≤ p) (h9 : p ≤ 9) : Calls Tryd.prog 33 #[.int .i64 (p : Int)] w fun e w' => e = .returned (.int .i64 (tk p)) ∧ w = w' := by
  have HT : Hid ((tk p : Int) = ((10 ^ (9 - p) : Nat) : Int)) := by
    show _ = _
    rcases (by omega : p = 3 ∨ p = 4 ∨ p = 5 ∨ p = 6 ∨ p = 7 ∨ p = 8 ∨ p = 9) with rfl | rfl | rfl | rfl | rfl | rfl | rfl <;> decide
  generalize tk p = T at *
  go_enter Tryd.func33, Tryd.ntmps33
  go_wp2
  go_loopg [3, 4] (p - 3) (fun g s3 s4 wx => ∃ k G : Nat, s3 = .int .i64 (G : Int) ∧ s4 = .int .i64 (k : Int) ∧ g + k = p ∧ G ≤ 1000000 ∧ Hid (3 ≤ k ∧ G = 10 ^ (9 - k)) ∧ w = wx)
  case atStart => exact ⟨3, 1000000, rfl, rfl, by omega, by omega, ⟨by omega, rfl⟩, rfl⟩
  case round =>
    obtain ⟨k, G, rfl, rfl, hg, hG, HK, rfl⟩ := hrel
    by_cases hk : k < p
    · have hkI : decide ((k : Int) < (p : Int)) = true := by simp; omega
      obtain ⟨G2, hG2⟩ : ∃ G2, G / 10 = G2 := ⟨_, rfl⟩
      have hGI : (G : Int) / 10 = (G2 : Int) := by omega
      have HK2 : Hid (3 ≤ k + 1 ∧ G2 = 10 ^ (9 - (k + 1))) := by
        have := HK.out
        refine ⟨by omega, ?_⟩
        rw [← hG2, this.2, show 9 - k = (9 - (k + 1)) + 1 by omega, Nat.pow_succ]
        omega
      clear hG2 HK
      go_wp2
      go_roundg (p - (k + 1))
      case measure => omega
      case rel => exact ⟨k + 1, G2, by first | rfl | simp, by first | rfl | simp, by omega, by omega, HK2, rfl⟩
    · have hkI : decide ((k : Int) < (p : Int)) = false := by simp; omega
      have hE : (G : Int) = T := by
        rw [HT.out, HK.out.2, show k = p by omega]
      subst hE
      clear HK
      go_wp2
      go_ret
      exact ⟨rfl, rfl⟩


set_option maxRecDepth 100000 in
theorem inDay_any (w : World) (h m s c p : Nat) (h1 : h ≤ 99) (h2 : m ≤ 99) (h3 : s ≤ 99) (h4 : c ≤ 999999) (hp1 : 1 ≤ p) (hp9 : p ≤ 9) :
    Calls Tryd.prog 19 #[v5 h m s c p] w fun e w' => e = .returned (.tuple #[.int .i64 (tt h m s c : Nat), .int .i64 (tk p)]) ∧ Below w.heap.size w w' := by
  obtain ⟨W, hW⟩ : ∃ W, w.alloc (.cells #[.int .i64 (h : Int), .int .i64 (m : Int), .int .i64 (s : Int), .int .i64 (c : Int), .int .i64 (p : Int)] 51) = W := ⟨_, rfl⟩
  have HB : Hid (Below w.heap.size w W) := hW ▸ (Below.refl _ _).alloc (Nat.le_refl _) _
  have q0 : W.cell? ⟨w.heap.size, 0, none⟩ = some (.int .i64 (h : Int)) := by rw [← hW]; simp
  have q1 : W.cell? ⟨w.heap.size, 1, none⟩ = some (.int .i64 (m : Int)) := by rw [← hW]; simp
  have q2 : W.cell? ⟨w.heap.size, 2, none⟩ = some (.int .i64 (s : Int)) := by rw [← hW]; simp
  have q3 : W.cell? ⟨w.heap.size, 3, none⟩ = some (.int .i64 (c : Int)) := by rw [← hW]; simp
  have q4 : W.cell? ⟨w.heap.size, 4, none⟩ = some (.int .i64 (p : Int)) := by rw [← hW]; simp
  obtain ⟨T, hT⟩ : ∃ T : Nat, tt h m s c = T := ⟨_, rfl⟩
  have hTb : T ≤ 400000000000 := by rw [← hT]; unfold tt; omega
  have hTI : (60 * (h : Int) + (m : Int)) * 61000000 + (s : Int) * 1000000 + (c : Int) = (T : Int) := by rw [← hT]; unfold tt; omega
  rw [hT]
  clear hT
  unfold v5
  by_cases e1 : p = 1
  · subst e1
    go_enter Tryd.func19, Tryd.ntmps19
    go_wp2
    refine bodyPost_ret (v := .tuple #[.int .i64 (T : Int), .int .i64 3660000000]) (by simp [results, Tryd.results19, go_sem]) rfl ⟨rfl, ?_⟩
    exact (Below.refl _ _).alloc (Nat.le_refl _) _
  · by_cases e2 : p = 2
    · subst e2
      go_enter Tryd.func19, Tryd.ntmps19
      go_wp2
      refine bodyPost_ret (v := .tuple #[.int .i64 (T : Int), .int .i64 61000000]) (by simp [results, Tryd.results19, go_sem]) rfl ⟨rfl, ?_⟩
      exact (Below.refl _ _).alloc (Nat.le_refl _) _
    · have e1I : ((p : Int) == 1) = false := by simp; omega
      have e2I : ((p : Int) == 2) = false := by simp; omega
      have c33 := fun W => grain_any W p (by omega) hp9
      have hk := tk_pos hp9
      generalize tk p = K at *
      go_enter Tryd.func19, Tryd.ntmps19
      go_wp2_with (go_at_call 33; refine (c33 _).mono ?_; rintro e w' ⟨rfl, rfl⟩)
      refine bodyPost_ret (v := .tuple #[.int .i64 (T : Int), .int .i64 K]) (by simp [results, Tryd.results19, go_sem]) rfl ⟨rfl, ?_⟩
      exact HB.out

set_option maxRecDepth 100000 in
theorem ticksOf_any (w : World) (y m d h mi sc mc p : Nat) (zd : Bool) (z : Int) (hp : p ≤ 9) (hO : Ot w) :
    Calls Tryd.prog 26 #[.agg #[.int .i64 (y : Int), .int .i64 (m : Int), .int .i64 (d : Int), .int .i64 3, .int .i64 (h : Int), .int .i64 (mi : Int), .int .i64 (sc : Int), .int .i64 (mc : Int), .int .i64 (p : Int), .bool zd, .int .i64 z]] w
      fun e w' => e = .returned (.int .i64 (tk p)) ∧ Below w.heap.size w w' := by
  obtain ⟨W, hW⟩ : ∃ W, w.alloc (.cells #[.int .i64 (y : Int), .int .i64 (m : Int), .int .i64 (d : Int), .int .i64 3, .int .i64 (h : Int), .int .i64 (mi : Int), .int .i64 (sc : Int), .int .i64 (mc : Int), .int .i64 (p : Int), .bool zd, .int .i64 z] 57) = W := ⟨_, rfl⟩
  have HB : Hid (Below w.heap.size w W) := hW ▸ (Below.refl _ _).alloc (Nat.le_refl _) _
  have q3 : W.cell? ⟨w.heap.size, 3, none⟩ = some (.int .i64 3) := by rw [← hW]; simp
  have q8 : W.cell? ⟨w.heap.size, 8, none⟩ = some (.int .i64 (p : Int)) := by rw [← hW]; simp
  have qt : W.cell? ⟨0, p, none⟩ = some (.int .i64 (tk p)) := (hO.on HB.out).p p (by omega)
  have hpI : (p : Int) < 10 := by omega
  clear hO
  go_enter Tryd.func26, Tryd.ntmps26
  go_wp2
  go_ret
  exact ⟨rfl, HB.out⟩

end Go.Proofs.YtfhapcnnalagjaaDoor
