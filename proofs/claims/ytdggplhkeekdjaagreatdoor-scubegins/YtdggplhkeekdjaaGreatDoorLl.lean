import Derived.Test.YtdggplhkeekdjaaGreatDoorLm
/-
  DERIVED. Which lengths the program refuses.
-/
namespace Go.Proofs.YtdggplhkeekdjaaGreatDoor.Ck
open Go Go.Proofs Go.RowKit

def rpC (n : ByteArray) (p : Int) (u m : Nat) (t c q l : Bool) (cf ff : Value) : Array Value := #[.string n, .int .u8 p, .int .i64 (u : Int), .int .i64 (m : Int), .bool t, .bool c, .bool q, .bool l, cf, ff]
/-- Is it whole? -/
def whB (q : Bool) (u k : Nat) : Bool := if q = true then decide (k = u) else decide (k % 2 = 0) && decide (k % u = 0)
set_option maxRecDepth 100000 in
set_option maxHeartbeats 4000000 in
theorem isWhole_any (w : World) (n : ByteArray) (p : Int) (u m : Nat) (t c q l : Bool) (cf ff : Value) (k : Nat) (hu : 0 < u) (hu2 : u ≤ 1000) (hk : k ≤ 70000) :
    Calls Tryz.prog 102 #[.agg (rpC n p u m t c q l cf ff), .int .i64 (k : Int)] w fun e w' => e = .returned (.bool (whB q u k)) ∧ Below w.heap.size w w' := by
  unfold whB
  obtain ⟨W0, hW0⟩ : ∃ W0, w.alloc (.cells (rpC n p u m t c q l cf ff) 179) = W0 := ⟨_, rfl⟩
  have hb0 : Below w.heap.size w W0 := hW0 ▸ (Below.refl _ _).alloc (Nat.le_refl _) _
  have c2 : W0.cell? ⟨w.heap.size, 2, none⟩ = some (.int .i64 (u : Int)) := by rw [← hW0]; simp [rpC]
  have c6 : W0.cell? ⟨w.heap.size, 6, none⟩ = some (.bool q) := by rw [← hW0]; simp [rpC]
  have HB : Hid (Below w.heap.size w W0) := hb0
  unfold rpC at hW0 ⊢
  clear hb0
  cases q with
  | true =>
    rw [if_pos rfl]
    by_cases h : k = u
    · have e1 : ((k : Int) == (u : Int)) = true := by simp; omega
      rw [decide_eq_true h]
      go_enter Tryz.func102, Tryz.ntmps102
      go_wp2
      go_ret
      exact ⟨by simp, HB.out⟩
    · have e1 : ((k : Int) == (u : Int)) = false := by simp; omega
      rw [decide_eq_false h]
      go_enter Tryz.func102, Tryz.ntmps102
      go_wp2
      go_ret
      exact ⟨by simp, HB.out⟩
  | false =>
    rw [if_neg (by decide)]
    have hu0 : ((u : Int) == 0) = false := by simp; omega
    have hu1 : ¬ ((u : Int) = 0) := by omega
    have hu3 : (u : Int) ≠ 0 := by omega
    by_cases h2 : k % 2 = 0
    · have e2 : ((k : Int) % 2 == 0) = true := by simp; omega
      have e2' : ((k : Int).tmod 2 == 0) = true := by rw [Int.tmod_eq_emod_of_nonneg (by omega)]; exact e2
      rw [decide_eq_true h2, Bool.true_and]
      have eu : (k : Int).tmod (u : Int) = ((k % u : Nat) : Int) := by rw [Int.tmod_eq_emod_of_nonneg (by omega)]; rfl
      by_cases h3 : k % u = 0
      · have e3 : ((k : Int).tmod (u : Int) == 0) = true := by rw [eu, h3]; rfl
        rw [decide_eq_true h3]
        go_enter Tryz.func102, Tryz.ntmps102
        go_wp2
        go_ret
        exact ⟨by simp, HB.out⟩
      · have e3 : ((k : Int).tmod (u : Int) == 0) = false := by rw [eu]; simp; omega
        have e4 : ¬ ((k : Int) % (u : Int) = 0) := fun h => h3 (Int.ofNat.inj h)
        rw [decide_eq_false h3]
        go_enter Tryz.func102, Tryz.ntmps102
        go_wp2
        go_ret
        exact ⟨by simp [e4], HB.out⟩
    · have e2 : ((k : Int) % 2 == 0) = false := by simp; omega
      have e2' : ((k : Int).tmod 2 == 0) = false := by rw [Int.tmod_eq_emod_of_nonneg (by omega)]; exact e2
      rw [decide_eq_false h2, Bool.false_and]
      go_enter Tryz.func102, Tryz.ntmps102
      go_wp2
      go_ret
      exact ⟨by simp, HB.out⟩
/-- How long it is, as its kind counts. -/
def szP (n : ByteArray) (c : Bool) (s : ByteArray) : Nat := if c = true then (if (n.toList == [80, 78]) = true then mxG (spCB 61 s) 0 else Lib.runeCount s) else s.size
theorem mxG_le (B : Nat) : ∀ (xs : List ByteArray) (m : Nat), m ≤ B → (∀ x ∈ xs, x.size ≤ B) → mxG xs m ≤ B
  | [], _, h, _ => h
  | x :: xs, m, h, hx => by
    unfold mxG
    have h1 := rc_le x
    have h2 := hx x (by simp)
    exact mxG_le B xs _ (by split <;> omega) (fun y hy => hx y (by simp [hy]))
theorem szP_le (n : ByteArray) (c : Bool) (s : ByteArray) : szP n c s ≤ s.size := by
  unfold szP
  split
  · split
    · exact mxG_le _ _ _ (Nat.zero_le _) (strC_len 61 s)
    · exact rc_le s
  · exact Nat.le_refl _
set_option maxRecDepth 100000 in
set_option maxHeartbeats 4000000 in
theorem size_any (w : World) (n : ByteArray) (p : Int) (u m : Nat) (t c q l : Bool) (cf ff : Value) (s : ByteArray) (hs : s.size ≤ 8000000) :
    Calls Tryz.prog 103 #[.agg (rpC n p u m t c q l cf ff), .string s] w fun e w' => e = .returned (.int .i64 (szP n c s)) ∧ Below w.heap.size w w' := by
  unfold szP
  obtain ⟨W0, hW0⟩ : ∃ W0, w.alloc (.cells (rpC n p u m t c q l cf ff) 179) = W0 := ⟨_, rfl⟩
  have hb0 : Below w.heap.size w W0 := hW0 ▸ (Below.refl _ _).alloc (Nat.le_refl _) _
  have c0 : W0.cell? ⟨w.heap.size, 0, none⟩ = some (.string n) := by rw [← hW0]; simp [rpC]
  have c5 : W0.cell? ⟨w.heap.size, 5, none⟩ = some (.bool c) := by rw [← hW0]; simp [rpC]
  have HB : Hid (Below w.heap.size w W0) := hb0
  unfold rpC at hW0 ⊢
  clear hb0
  cases c with
  | false =>
    rw [if_neg (by decide)]
    go_enter Tryz.func103, Tryz.ntmps103
    go_wp2
    go_ret
    exact ⟨by simp, HB.out⟩
  | true =>
    rw [if_pos rfl]
    cases hn : (n.toList == [80, 78]) with
    | true =>
      rw [if_pos rfl]
      have cl := longest_any W0 s hs
      generalize mxG (spCB 61 s) 0 = k at *
      go_enter Tryz.func103, Tryz.ntmps103
      go_wp2_with (go_at_call 110; refine Stop.mk ?_)
      refine Stop.out (cl.mono ?_)
      rintro e W1 ⟨rfl, hb⟩
      go_wp2
      go_ret
      exact ⟨rfl, HB.out.trans (hb.mono HB.out.size)⟩
    | false =>
      rw [if_neg (by decide)]
      have cl := rcount_any s W0 (by omega)
      generalize Lib.runeCount s = k at *
      go_enter Tryz.func103, Tryz.ntmps103
      go_wp2_with (go_at_call 111; refine Stop.mk ?_)
      refine Stop.out (cl.mono ?_)
      rintro e W1 ⟨rfl, hb⟩
      go_wp2
      go_ret
      exact ⟨rfl, HB.out.trans (hb.mono HB.out.size)⟩
end Go.Proofs.YtdggplhkeekdjaaGreatDoor.Ck

/-
  DERIVED. Which lengths the program refuses: wrongLength.
-/
namespace Go.Proofs.YtdggplhkeekdjaaGreatDoor.Ck
open Go Go.Proofs Go.RowKit

/-- Where the length is refused, -1 if it is not. -/
def wlP (n : ByteArray) (u m : Nat) (t c q : Bool) (s : ByteArray) : Int :=
  if 65534 < s.size then 65534 else if t = true then (if m ≠ 0 ∧ m < szP n c s then (m : Int) else -1) else if whB q u s.size = true then -1 else (s.size : Int)
set_option maxRecDepth 100000 in
set_option maxHeartbeats 8000000 in
theorem wrongLength_any (w : World) (n : ByteArray) (p : Int) (u m : Nat) (t c q l : Bool) (cf ff : Value) (s : ByteArray) (hs : s.size ≤ 140737488351232) (hu : 0 < u) (hu2 : u ≤ 1000) :
    Calls Tryz.prog 84 #[.agg (rpC n p u m t c q l cf ff), .string s] w fun e w' => e = .returned (.int .i64 (wlP n u m t c q s)) ∧ Below w.heap.size w w' := by
  unfold wlP
  obtain ⟨W0, hW0⟩ : ∃ W0, w.alloc (.cells (rpC n p u m t c q l cf ff) 179) = W0 := ⟨_, rfl⟩
  have hb0 : Below w.heap.size w W0 := hW0 ▸ (Below.refl _ _).alloc (Nat.le_refl _) _
  have c3 : W0.cell? ⟨w.heap.size, 3, none⟩ = some (.int .i64 (m : Int)) := by rw [← hW0]; simp [rpC]
  have c4 : W0.cell? ⟨w.heap.size, 4, none⟩ = some (.bool t) := by rw [← hW0]; simp [rpC]
  have c0 : W0.cell? ⟨w.heap.size, 0, none⟩ = some (.string n) := by rw [← hW0]; simp [rpC]
  have c1 : W0.cell? ⟨w.heap.size, 1, none⟩ = some (.int .u8 p) := by rw [← hW0]; simp [rpC]
  have c2 : W0.cell? ⟨w.heap.size, 2, none⟩ = some (.int .i64 (u : Int)) := by rw [← hW0]; simp [rpC]
  have c5 : W0.cell? ⟨w.heap.size, 5, none⟩ = some (.bool c) := by rw [← hW0]; simp [rpC]
  have c6 : W0.cell? ⟨w.heap.size, 6, none⟩ = some (.bool q) := by rw [← hW0]; simp [rpC]
  have c7 : W0.cell? ⟨w.heap.size, 7, none⟩ = some (.bool l) := by rw [← hW0]; simp [rpC]
  have c8 : W0.cell? ⟨w.heap.size, 8, none⟩ = some (cf) := by rw [← hW0]; simp [rpC]
  have c9 : W0.cell? ⟨w.heap.size, 9, none⟩ = some (ff) := by rw [← hW0]; simp [rpC]
  have HB : Hid (Below w.heap.size w W0) := hb0
  clear hb0
  by_cases hbig : 65534 < s.size
  · have iB : (s.size : Int) > 65534 := by omega
    rw [if_pos hbig]
    unfold rpC at hW0 ⊢
    go_enter Tryz.func84, Tryz.ntmps84
    go_wp2
    go_ret
    exact ⟨rfl, HB.out⟩
  have iB : ¬ ((s.size : Int) > 65534) := by omega
  rw [if_neg hbig]
  have cW := isWhole_any W0 n p u m t c q l cf ff s.size hu hu2 (by omega)
  have cS := fun W => size_any W n p u m t c q l cf ff s (by omega)
  have hz := szP_le n c s
  generalize szP n c s = z at *
  generalize whB q u s.size = b at *
  unfold rpC at hW0 cW cS ⊢
  cases t with
  | false =>
    rw [if_neg (by decide)]
    clear cS
    cases b with
    | true =>
      rw [if_pos rfl]
      go_enter Tryz.func84, Tryz.ntmps84
      go_wp2_with (go_at_call 102; refine Stop.mk ?_)
      refine Stop.out (cW.mono ?_)
      rintro e W1 ⟨rfl, hb⟩
      have cc4 := (hb.cell (clt c4)).trans c4
      have HB1 : Hid (Below w.heap.size w W1) := HB.out.trans (hb.mono HB.out.size)
      clear hb
      go_wp2
      go_quiet (fail)
      go_wp2
      go_ret
      exact ⟨rfl, below_drewN HB1.out _⟩
    | false =>
      rw [if_neg (by decide)]
      go_enter Tryz.func84, Tryz.ntmps84
      go_wp2_with (go_at_call 102; refine Stop.mk ?_)
      refine Stop.out (cW.mono ?_)
      rintro e W1 ⟨rfl, hb⟩
      have HB1 : Hid (Below w.heap.size w W1) := HB.out.trans (hb.mono HB.out.size)
      clear hb
      go_wp2
      go_ret
      exact ⟨rfl, HB1.out⟩
  | true =>
    rw [if_pos rfl]
    clear cW
    by_cases hm0 : m = 0
    · have im : ((m : Int) != 0) = false := by simp; omega
      rw [if_neg (fun h => h.1 hm0)]
      clear hm0
      go_enter Tryz.func84, Tryz.ntmps84
      go_wp2
      go_quiet (fail)
      go_wp2
      go_ret
      exact ⟨rfl, below_drewN HB.out _⟩
    · have im : ((m : Int) != 0) = true := by simp; omega
      have im2 : ((m : Int) == 0) = false := by simp; omega
      by_cases hlt : m < z
      · have iz : (z : Int) > (m : Int) := by omega
        rw [if_pos ⟨hm0, hlt⟩]
        go_enter Tryz.func84, Tryz.ntmps84
        go_wp2
        go_region_with (go_at_call 103; refine (cS _).mono ?_; rintro e W1 ⟨rfl, hb0⟩; have hb : Below W0.heap.size W0 W1 := ⟨hb0.os, hb0.tape, hb0.output, hb0.size, hb0.block⟩; clear hb0; have cc3 := (hb.cell (clt c3)).trans c3; have HB1 : Hid (Below w.heap.size w W1) := HB.out.trans (hb.mono HB.out.size); clear hb)
        all_goals
          go_wp2
          go_ret
          exact ⟨rfl, HB1.out⟩
      · have iz : ¬ ((z : Int) > (m : Int)) := by omega
        rw [if_neg (fun h => hlt h.2)]
        go_enter Tryz.func84, Tryz.ntmps84
        go_wp2
        go_region_with (go_at_call 103; refine (cS _).mono ?_; rintro e W1 ⟨rfl, hb0⟩; have hb : Below W0.heap.size W0 W1 := ⟨hb0.os, hb0.tape, hb0.output, hb0.size, hb0.block⟩; clear hb0; have cc3 := (hb.cell (clt c3)).trans c3; have HB1 : Hid (Below w.heap.size w W1) := HB.out.trans (hb.mono HB.out.size); clear hb)
        all_goals
          go_wp2
          go_ret
          exact ⟨rfl, HB1.out⟩
end Go.Proofs.YtdggplhkeekdjaaGreatDoor.Ck
