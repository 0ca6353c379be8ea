import Derived.Test.YtgdemlebohlolaaGreatDoorLm
/-
  DERIVED. Which lengths the program refuses.
-/
namespace Go.Proofs.YtgdemlebohlolaaGreatDoor.Ck
open Go Go.Proofs Go.RowKit

def rpC (n : ByteArray) (p : Int) (u m : Nat) (t c q l : Bool) (cf ff : Value) : Array Value := #[.string n, .int .u8 p, .int .i64 (u : Int), .int .i64 (m : Int), .bool t, .bool c, .bool q, .bool l, cf, ff]
/-- Is it whole? -/
def whB (q : Bool) (u k : Nat) : Bool := if q = true then decide (k = u) else decide (k % 2 = 0) && decide (k % u = 0)
set_option maxRecDepth 100000 in
set_option maxHeartbeats 4000000 in
theorem isWhole_any (w : World) (n : ByteArray) (p : Int) (u m : Nat) (t c q l : Bool) (cf ff : Value) (k : Nat) (hu : 0 < u) (hu2 : u ≤ 1000) (hk : k ≤ 70000) :
    Calls Tryz.prog 51 #[.agg (rpC n p u m t c q l cf ff), .int .i64 (k : Int)] w fun e w' => e = .returned (.bool (whB q u k)) ∧ Below w.heap.size w w' := by
  unfold whB
  obtain ⟨W0, hW0⟩ : ∃ W0, w.alloc (.cells (rpC n p u m t c q l cf ff) 74) = W0 := ⟨_, rfl⟩
  have hb0 : Below w.heap.size w W0 := hW0 ▸ (Below.refl _ _).alloc (Nat.le_refl _) _
  have c2 : W0.cell? ⟨w.heap.size, 2, none⟩ = some (.int .i64 (u : Int)) := by rw [← hW0]; simp [rpC]
  have c6 : W0.cell? ⟨w.heap.size, 6, none⟩ = some (.bool q) := by rw [← hW0]; simp [rpC]
  have HB : Hid (Below w.heap.size w W0) := hb0
  unfold rpC at hW0 ⊢
  clear hb0
  cases q with
  | true =>
    rw [if_pos rfl]
    by_cases h : k = u
    · have e1 : ((k : Int) == (u : Int)) = true := by simp; omega
      rw [decide_eq_true h]
      go_enter Tryz.func51, Tryz.ntmps51
      go_wp2
      go_ret
      exact ⟨by simp, HB.out⟩
    · have e1 : ((k : Int) == (u : Int)) = false := by simp; omega
      rw [decide_eq_false h]
      go_enter Tryz.func51, Tryz.ntmps51
      go_wp2
      go_ret
      exact ⟨by simp, HB.out⟩
  | false =>
    rw [if_neg (by decide)]
    have hu0 : ((u : Int) == 0) = false := by simp; omega
    have hu1 : ¬ ((u : Int) = 0) := by omega
    have hu3 : (u : Int) ≠ 0 := by omega
    by_cases h2 : k % 2 = 0
    · have e2 : ((k : Int) % 2 == 0) = true := by simp; omega
      have e2' : ((k : Int).tmod 2 == 0) = true := by rw [Int.tmod_eq_emod_of_nonneg (by omega)]; exact e2
      rw [decide_eq_true h2, Bool.true_and]
      have eu : (k : Int).tmod (u : Int) = ((k % u : Nat) : Int) := by rw [Int.tmod_eq_emod_of_nonneg (by omega)]; rfl
      by_cases h3 : k % u = 0
      · have e3 : ((k : Int).tmod (u : Int) == 0) = true := by rw [eu, h3]; rfl
        rw [decide_eq_true h3]
        go_enter Tryz.func51, Tryz.ntmps51
        go_wp2
        go_ret
        exact ⟨by simp, HB.out⟩
      · have e3 : ((k : Int).tmod (u : Int) == 0) = false := by rw [eu]; simp; omega
        have e4 : ¬ ((k : Int) % (u : Int) = 0) := fun h => h3 (Int.ofNat.inj h)
        rw [decide_eq_false h3]
        go_enter Tryz.func51, Tryz.ntmps51
        go_wp2
        go_ret
        exact ⟨by simp [e4], HB.out⟩
    · have e2 : ((k : Int) % 2 == 0) = false := by simp; omega
      have e2' : ((k : Int).tmod 2 == 0) = false := by rw [Int.tmod_eq_emod_of_nonneg (by omega)]; exact e2
      rw [decide_eq_false h2, Bool.false_and]
      go_enter Tryz.func51, Tryz.ntmps51
      go_wp2
      go_ret
      exact ⟨by simp, HB.out⟩
/-- How long it is, as its kind counts. -/
def szP (n : ByteArray) (c : Bool) (s : ByteArray) : Nat := if c = true then (if (n.toList == [80, 78]) = true then mxG (spCB 61 s) 0 else Lib.runeCount s) else s.size
theorem mxG_le (B : Nat) : ∀ (xs : List ByteArray) (m : Nat), m ≤ B → (∀ x ∈ xs, x.size ≤ B) → mxG xs m ≤ B
  | [], _, h, _ => h
  | x :: xs, m, h, hx => by
    unfold mxG
    have h1 := rc_le x
    have h2 := hx x (by simp)
    exact mxG_le B xs _ (by split <;> omega) (fun y hy => hx y (by simp [hy]))
theorem szP_le (n : ByteArray) (c : Bool) (s : ByteArray) : szP n c s ≤ s.size := by
  unfold szP
  split
  · split
    · exact mxG_le _ _ _ (Nat.zero_le _) (strC_len 61 s)
    · exact rc_le s
  · exact Nat.le_refl _
set_option maxRecDepth 100000 in
set_option maxHeartbeats 4000000 in
theorem size_any (w : World) (n : ByteArray) (p : Int) (u m : Nat) (t c q l : Bool) (cf ff : Value) (s : ByteArray) (hs : s.size ≤ 8000000) :
    Calls Tryz.prog 52 #[.agg (rpC n p u m t c q l cf ff), .string s] w fun e w' => e = .returned (.int .i64 (szP n c s)) ∧ Below w.heap.size w w' := by
  unfold szP
  obtain ⟨W0, hW0⟩ : ∃ W0, w.alloc (.cells (rpC n p u m t c q l cf ff) 74) = W0 := ⟨_, rfl⟩
  have hb0 : Below w.heap.size w W0 := hW0 ▸ (Below.refl _ _).alloc (Nat.le_refl _) _
  have c0 : W0.cell? ⟨w.heap.size, 0, none⟩ = some (.string n) := by rw [← hW0]; simp [rpC]
  have c5 : W0.cell? ⟨w.heap.size, 5, none⟩ = some (.bool c) := by rw [← hW0]; simp [rpC]
  have HB : Hid (Below w.heap.size w W0) := hb0
  unfold rpC at hW0 ⊢
  clear hb0
  cases c with
  | false =>
    rw [if_neg (by decide)]
    go_enter Tryz.func52, Tryz.ntmps52
    go_wp2
    go_ret
    exact ⟨by simp, HB.out⟩
  | true =>
    rw [if_pos rfl]
    cases hn : (n.toList == [80, 78]) with
    | true =>
      rw [if_pos rfl]
      have cl := longest_any W0 s hs
      generalize mxG (spCB 61 s) 0 = k at *
      go_enter Tryz.func52, Tryz.ntmps52
      go_wp2_with (go_at_call 81; refine Stop.mk ?_)
      refine Stop.out (cl.mono ?_)
      rintro e W1 ⟨rfl, hb⟩
      go_wp2
      go_ret
      exact ⟨rfl, HB.out.trans (hb.mono HB.out.size)⟩
    | false =>
      rw [if_neg (by decide)]
      have cl := rcount_any s W0 (by omega)
      generalize Lib.runeCount s = k at *
      go_enter Tryz.func52, Tryz.ntmps52
      go_wp2_with (go_at_call 82; refine Stop.mk ?_)
      refine Stop.out (cl.mono ?_)
      rintro e W1 ⟨rfl, hb⟩
      go_wp2
      go_ret
      exact ⟨rfl, HB.out.trans (hb.mono HB.out.size)⟩
end Go.Proofs.YtgdemlebohlolaaGreatDoor.Ck

/-
  DERIVED. Which lengths the program refuses: wrongLength.
-/
namespace Go.Proofs.YtgdemlebohlolaaGreatDoor.Ck
open Go Go.Proofs Go.RowKit

/-- Where the length is refused, -1 if it is not. -/
def wlP (n : ByteArray) (u m : Nat) (t c q : Bool) (s : ByteArray) : Int :=
  if 65534 < s.size then 65534 else if t = true then (if m ≠ 0 ∧ m < szP n c s then (m : Int) else -1) else if whB q u s.size = true then -1 else (s.size : Int)
set_option maxRecDepth 100000 in
set_option maxHeartbeats 8000000 in
theorem wrongLength_any (w : World) (n : ByteArray) (p : Int) (u m : Nat) (t c q l : Bool) (cf ff : Value) (s : ByteArray) (hs : s.size ≤ 140737488351232) (hu : 0 < u) (hu2 : u ≤ 1000) :
    Calls Tryz.prog 34 #[.agg (rpC n p u m t c q l cf ff), .string s] w fun e w' => e = .returned (.int .i64 (wlP n u m t c q s)) ∧ Below w.heap.size w w' := by
  unfold wlP
  obtain ⟨W0, hW0⟩ : ∃ W0, w.alloc (.cells (rpC n p u m t c q l cf ff) 74) = W0 := ⟨_, rfl⟩
  have hb0 : Below w.heap.size w W0 := hW0 ▸ (Below.refl _ _).alloc (Nat.le_refl _) _
  have c3 : W0.cell? ⟨w.heap.size, 3, none⟩ = some (.int .i64 (m : Int)) := by rw [← hW0]; simp [rpC]
  have c4 : W0.cell? ⟨w.heap.size, 4, none⟩ = some (.bool t) := by rw [← hW0]; simp [rpC]
  have c0 : W0.cell? ⟨w.heap.size, 0, none⟩ = some (.string n) := by rw [← hW0]; simp [rpC]
  have c1 : W0.cell? ⟨w.heap.size, 1, none⟩ = some (.int .u8 p) := by rw [← hW0]; simp [rpC]
  have c2 : W0.cell? ⟨w.heap.size, 2, none⟩ = some (.int .i64 (u : Int)) := by rw [← hW0]; simp [rpC]
  have c5 : W0.cell? ⟨w.heap.size, 5, none⟩ = some (.bool c) := by rw [← hW0]; simp [rpC]
  have c6 : W0.cell? ⟨w.heap.size, 6, none⟩ = some (.bool q) := by rw [← hW0]; simp [rpC]
  have c7 : W0.cell? ⟨w.heap.size, 7, none⟩ = some (.bool l) := by rw [← hW0]; simp [rpC]
  have c8 : W0.cell? ⟨w.heap.size, 8, none⟩ = some (cf) := by rw [← hW0]; simp [rpC]
  have c9 : W0.cell? ⟨w.heap.size, 9, none⟩ = some (ff) := by rw [← hW0]; simp [rpC]
  have HB : Hid (Below w.heap.size w W0) := hb0
  clear hb0
  by_cases hbig : 65534 < s.size
  · have iB : (s.size : Int) > 65534 := by omega
    rw [if_pos hbig]
    unfold rpC at hW0 ⊢
    go_enter Tryz.func34, Tryz.ntmps34
    go_wp2
    go_ret
    exact ⟨rfl, HB.out⟩
  have iB : ¬ ((s.size : Int) > 65534) := by omega
  rw [if_neg hbig]
  have cW := isWhole_any W0 n p u m t c q l cf ff s.size hu hu2 (by omega)
  have cS := fun W => size_any W n p u m t c q l cf ff s (by omega)
  have hz := szP_le n c s
  generalize szP n c s = z at *
  generalize whB q u s.size = b at *
  unfold rpC at hW0 cW cS ⊢
  cases t with
  | false =>
    rw [if_neg (by decide)]
    clear cS
    cases b with
    | true =>
      rw [if_pos rfl]
      go_enter Tryz.func34, Tryz.ntmps34
      go_wp2_with (go_at_call 51; refine Stop.mk ?_)
      refine Stop.out (cW.mono ?_)
      rintro e W1 ⟨rfl, hb⟩
      have cc4 := (hb.cell (clt c4)).trans c4
      have HB1 : Hid (Below w.heap.size w W1) := HB.out.trans (hb.mono HB.out.size)
      clear hb
      go_wp2
      go_quiet (fail)
      go_wp2
      go_ret
      exact ⟨rfl, below_drewN HB1.out _⟩
    | false =>
      rw [if_neg (by decide)]
      go_enter Tryz.func34, Tryz.ntmps34
      go_wp2_with (go_at_call 51; refine Stop.mk ?_)
      refine Stop.out (cW.mono ?_)
      rintro e W1 ⟨rfl, hb⟩
      have HB1 : Hid (Below w.heap.size w W1) := HB.out.trans (hb.mono HB.out.size)
      clear hb
      go_wp2
      go_ret
      exact ⟨rfl, HB1.out⟩
  | true =>
    rw [if_pos rfl]
    clear cW
    by_cases hm0 : m = 0
    · have im : ((m : Int) != 0) = false := by simp; omega
      rw [if_neg (fun h => h.1 hm0)]
      clear hm0
      go_enter Tryz.func34, Tryz.ntmps34
      go_wp2
      go_quiet (fail)
      go_wp2
      go_ret
      exact ⟨rfl, below_drewN HB.out _⟩
    · have im : ((m : Int) != 0) = true := by simp; omega
      have im2 : ((m : Int) == 0) = false := by simp; omega
      by_cases hlt : m < z
      · have iz : (z : Int) > (m : Int) := by omega
        rw [if_pos ⟨hm0, hlt⟩]
        go_enter Tryz.func34, Tryz.ntmps34
        go_wp2
        go_region_with (go_at_call 52; refine (cS _).mono ?_; rintro e W1 ⟨rfl, hb0⟩; have hb : Below W0.heap.size W0 W1 := ⟨hb0.os, hb0.tape, hb0.output, hb0.size, hb0.block⟩; clear hb0; have cc3 := (hb.cell (clt c3)).trans c3; have HB1 : Hid (Below w.heap.size w W1) := HB.out.trans (hb.mono HB.out.size); clear hb)
        all_goals
          go_wp2
          go_ret
          exact ⟨rfl, HB1.out⟩
      · have iz : ¬ ((z : Int) > (m : Int)) := by omega
        rw [if_neg (fun h => hlt h.2)]
        go_enter Tryz.func34, Tryz.ntmps34
        go_wp2
        go_region_with (go_at_call 52; refine (cS _).mono ?_; rintro e W1 ⟨rfl, hb0⟩; have hb : Below W0.heap.size W0 W1 := ⟨hb0.os, hb0.tape, hb0.output, hb0.size, hb0.block⟩; clear hb0; have cc3 := (hb.cell (clt c3)).trans c3; have HB1 : Hid (Below w.heap.size w W1) := HB.out.trans (hb.mono HB.out.size); clear hb)
        all_goals
          go_wp2
          go_ret
          exact ⟨rfl, HB1.out⟩
end Go.Proofs.YtgdemlebohlolaaGreatDoor.Ck

/-
  DERIVED. Which characters the program refuses: wrongChar.
-/
namespace Go.Proofs.YtgdemlebohlolaaGreatDoor.Ck
open Go Go.Proofs Go.RowKit

/-- Where the first character begins that may not be there. -/
def wcP (K : Int → Bool) (s : ByteArray) : Nat → Nat → Int
  | 0, _ => -1
  | f + 1, i => if i < s.size then (if K ((Utf8.decode s i).1 : Nat) = true ∧ ¬ ((Utf8.decode s i).1 = 65533 ∧ (Utf8.decode s i).2 = 1) then wcP K s f (i + (Utf8.decode s i).2) else (i : Int)) else -1
/-- A kind of characters: what the function says. -/
def ChF (j : Nat) (K : Int → Bool) : Prop := (∀ args w, (callFunc j args).run Tryz.prog w = .ok (.enter j args) w) ∧ ∀ (W : World) (c : Int), Calls Tryz.prog j #[.int .i32 c] W fun e w' => e = .returned (.bool (K c)) ∧ Below W.heap.size W w'
theorem eq41 (j : Nat) (W : World) : (binOp .eql 72 (.func (.func j) #[] #[]) .nilFunc).run Tryz.prog W = .ok (.bool false) W := by kernel_rfl
theorem eq41n (W : World) : (binOp .eql 72 .nilFunc .nilFunc).run Tryz.prog W = .ok (.bool true) W := by kernel_rfl
theorem ne42 (j : Nat) (W : World) : (binOp .neq 57 (.func (.func j) #[] #[]) .nilFunc).run Tryz.prog W = .ok (.bool true) W := by kernel_rfl
theorem ne42n (W : World) : (binOp .neq 57 .nilFunc .nilFunc).run Tryz.prog W = .ok (.bool false) W := by kernel_rfl
set_option maxRecDepth 100000 in
theorem wrongChar_nil (w : World) (n : ByteArray) (p : Int) (u m : Nat) (t c q l : Bool) (ff : Value) (s : ByteArray) :
    Calls Tryz.prog 35 #[.agg (rpC n p u m t c q l .nilFunc ff), .string s] w fun e w' => e = .returned (.int .i64 (-1)) ∧ Below w.heap.size w w' := by
  obtain ⟨W0, hW0⟩ : ∃ W0, w.alloc (.cells (rpC n p u m t c q l .nilFunc ff) 74) = W0 := ⟨_, rfl⟩
  have hb0 : Below w.heap.size w W0 := hW0 ▸ (Below.refl _ _).alloc (Nat.le_refl _) _
  have c8 : W0.cell? ⟨w.heap.size, 8, none⟩ = some .nilFunc := by rw [← hW0]; simp [rpC]
  have HB : Hid (Below w.heap.size w W0) := hb0
  unfold rpC at hW0 ⊢
  clear hb0
  have q41 := eq41n
  go_enter Tryz.func35, Tryz.ntmps35
  go_wp2
  go_ret
  exact ⟨rfl, HB.out⟩
set_option maxRecDepth 100000 in
set_option maxHeartbeats 4000000 in
theorem wrongChar_any (w : World) (n : ByteArray) (p : Int) (u m : Nat) (t c q l : Bool) (j : Nat) (ff : Value) (s : ByteArray) (hs : s.size ≤ 140737488351232) (K : Int → Bool) (hK : ChF j K) (hG : Gb w) :
    Calls Tryz.prog 35 #[.agg (rpC n p u m t c q l (.func (.func j) #[] #[]) ff), .string s] w fun e w' => e = .returned (.int .i64 (wcP K s s.size 0)) ∧ Below w.heap.size w w' := by
  obtain ⟨W0, hW0⟩ : ∃ W0, w.alloc (.cells (rpC n p u m t c q l (.func (.func j) #[] #[]) ff) 74) = W0 := ⟨_, rfl⟩
  have hb0 : Below w.heap.size w W0 := hW0 ▸ (Below.refl _ _).alloc (Nat.le_refl _) _
  have c8 : W0.cell? ⟨w.heap.size, 8, none⟩ = some (.func (.func j) #[] #[]) := by rw [← hW0]; simp [rpC]
  have hsz : w.heap.size < W0.heap.size := clt c8
  have HB : Hid (Below w.heap.size w W0) := hb0
  have C8 : Hid (W0.cell? ⟨w.heap.size, 8, none⟩ = some (.func (.func j) #[] #[])) := c8
  have HG : Hid (Gb w) := hG
  obtain ⟨R, hR⟩ : ∃ R, wcP K s s.size 0 = R := ⟨_, rfl⟩
  have HR : Hid (wcP K s s.size 0 = R) := hR
  rw [hR]
  obtain ⟨hE, hC⟩ := hK
  have HC : Hid (∀ (W : World) (c : Int), Calls Tryz.prog j #[.int .i32 c] W fun e w' => e = .returned (.bool (K c)) ∧ Below W.heap.size W w') := hC
  obtain ⟨B, hBB⟩ : ∃ B, W0.heap.size = B := ⟨_, rfl⟩
  have HS : Hid (w.heap.size < B) := hBB ▸ hsz
  unfold rpC at hW0 ⊢
  clear hb0 hR hC hsz hG
  have q41 := eq41 j
  go_enter Tryz.func35, Tryz.ntmps35
  go_wp2
  go_loopg [4] s.size (fun g s4 wx => ∃ pos f : Nat, s4 = .int .i64 0 ∧ pos ≤ s.size ∧ g + pos = s.size ∧ Hid (s.size ≤ pos + f) ∧ Hid (wcP K s f pos = R) ∧ Hid (wx.heap[B]? = some (.stringIter s pos)) ∧ Hid (Below w.heap.size w wx) ∧ Hid (wx.cell? ⟨w.heap.size, 8, none⟩ = some (.func (.func j) #[] #[])))
  case atStart =>
    refine ⟨0, s.size, rfl, by omega, by omega, by show _ ≤ _; omega, HR, ?_, ?_, ?_⟩
    · show _ = _; rw [← hBB]; exact World.iter_heap W0 s 0
    · exact HB.out.alloc (by have := HB.out.size; omega) _
    · exact (World.cell?_of_block (Below.heap_alloc W0 _ w.heap.size (by have := HS.out; omega))).trans C8.out
  case round =>
    clear HR C8 c8 HB hW0
    obtain ⟨pos, f, rfl, hp, hg, HF, HI, HT, HB, C8⟩ := hrel
    by_cases hlt : pos < s.size
    · have hnx : ∀ ty, (Instr.next (.pointer (some ⟨B, 0, none⟩)) true ty).run Tryz.prog wr = _ := fun ty => Lib.run_next_any_at wr B s pos ty HT.out hlt
      obtain ⟨hw1, hw2⟩ := dec_width s pos hlt
      have hd := decode_le s pos
      have HT1 : Hid ((wr.iterAt B s (pos + (Utf8.decode s pos).2)).heap[B]? = some (.stringIter s (pos + (Utf8.decode s pos).2))) := Lib.iterAt_heap wr B s pos (pos + (Utf8.decode s pos).2) HT.out
      have HB1 : Hid (Below w.heap.size w (wr.iterAt B s (pos + (Utf8.decode s pos).2))) := Lib.below_iterAt HB.out (k := B) (Nat.le_of_lt HS.out) s (pos + (Utf8.decode s pos).2)
      have c81 : (wr.iterAt B s (pos + (Utf8.decode s pos).2)).cell? ⟨w.heap.size, 8, none⟩ = some (.func (.func j) #[] #[]) := (World.cell?_of_block (Lib.iterAt_other wr B w.heap.size s (pos + (Utf8.decode s pos).2) (by have := HS.out; omega))).trans C8.out
      have HX : Hid (∀ W, Gb W → Calls Tryz.prog 53 #[.string (s.extract pos s.size)] W fun e w' => e = .returned (.bool (decide ((Utf8.decode s pos).2 = 1))) ∧ Below W.heap.size W w') := fun W hg => stray_any W s pos hlt hg
      have HI2 : Hid (∃ f', s.size ≤ pos + (Utf8.decode s pos).2 + f' ∧ (if K ((Utf8.decode s pos).1 : Nat) = true ∧ ¬ ((Utf8.decode s pos).1 = 65533 ∧ (Utf8.decode s pos).2 = 1) then wcP K s f' (pos + (Utf8.decode s pos).2) else (pos : Int)) = R) := by
        have h1 := HF.out
        have h2 := HI.out
        obtain ⟨f', rfl⟩ : ∃ f', f = f' + 1 := ⟨f - 1, by omega⟩
        rw [wcP, if_pos hlt] at h2
        exact ⟨f', by omega, h2⟩
      clear HF HI HT HB C8
      have cK := HC.out (wr.iterAt B s (pos + (Utf8.decode s pos).2)) ((Utf8.decode s pos).1 : Nat)
      generalize (Utf8.decode s pos).1 = d1 at *
      generalize (Utf8.decode s pos).2 = d2 at *
      generalize wr.iterAt B s (pos + d2) = W1 at *
      have ip : (pos : Int) ≤ (s.size : Int) := by omega
      cases hk : K (d1 : Nat) with
      | false =>
        rw [hk] at cK
        obtain rfl : (pos : Int) = R := by obtain ⟨f', _, h⟩ := HI2.out; rw [if_neg (fun h2 => by rw [hk] at h2; exact absurd h2.1 (by decide))] at h; exact h
        clear HI2 hk HX
        go_wp2_with (go_at_fn j; refine Stop.mk ?_)
        refine Stop.out (cK.mono ?_)
        rintro e W2 ⟨rfl, hb2⟩
        have HB2 : Hid (Below w.heap.size w W2) := HB1.out.trans (hb2.mono HB1.out.size)
        clear hb2
        go_wp2
        go_ret
        exact ⟨rfl, HB2.out⟩
      | true =>
        rw [hk] at cK
        by_cases h5 : d1 = 65533
        · have e5 : ((d1 : Int) == 65533) = true := by simp; omega
          by_cases h1 : d2 = 1
          · obtain rfl : (pos : Int) = R := by obtain ⟨f', _, h⟩ := HI2.out; rw [if_neg (fun h2 => h2.2 ⟨h5, h1⟩)] at h; exact h
            rw [decide_eq_true h1] at HX
            clear HI2 hk h5 h1
            go_wp2_with (go_at_fn j; refine Stop.mk ?_)
            refine Stop.out (cK.mono ?_)
            rintro e W2 ⟨rfl, hb2⟩
            have HB2 : Hid (Below w.heap.size w W2) := HB1.out.trans (hb2.mono HB1.out.size)
            have cX := HX.out W2 (HG.out.on HB2.out)
            clear hb2 HX
            go_wp2_with (go_at_call 53; refine Stop.mk ?_)
            refine Stop.out (cX.mono ?_)
            rintro e W3 ⟨rfl, hb3⟩
            have HB3 : Hid (Below w.heap.size w W3) := HB2.out.trans (hb3.mono HB2.out.size)
            clear hb3
            go_wp2
            go_ret
            exact ⟨rfl, HB3.out⟩
          · rw [decide_eq_false h1] at HX
            have HI3 : Hid (∃ f', s.size ≤ pos + d2 + f' ∧ wcP K s f' (pos + d2) = R) := by obtain ⟨f', h0, h⟩ := HI2.out; rw [if_pos ⟨hk, fun h2 => h1 h2.2⟩] at h; exact ⟨f', h0, h⟩
            clear HI2 hk h5
            have hl1 : B < W1.heap.size := (Array.getElem?_eq_some_iff.1 HT1.out).1
            go_wp2_with (go_at_fn j; refine Stop.mk ?_)
            refine Stop.out (cK.mono ?_)
            rintro e W2 ⟨rfl, hb2⟩
            have HB2 : Hid (Below w.heap.size w W2) := HB1.out.trans (hb2.mono HB1.out.size)
            have cX := HX.out W2 (HG.out.on HB2.out)
            have hl2 := hb2.size
            go_wp2_with (go_at_call 53; refine Stop.mk ?_)
            refine Stop.out (cX.mono ?_)
            rintro e W3 ⟨rfl, hb3⟩
            have HB3 : Hid (Below w.heap.size w W3) := HB2.out.trans (hb3.mono HB2.out.size)
            have hb13 : Below W1.heap.size W1 W3 := hb2.trans (hb3.mono hl2)
            have HT3 : Hid (W3.heap[B]? = some (.stringIter s (pos + d2))) := (hb13.block B hl1).trans HT1.out
            have C83 : Hid (W3.cell? ⟨w.heap.size, 8, none⟩ = some (.func (.func j) #[] #[])) := (hb13.cell (clt c81)).trans c81
            clear hb3 hb2 hb13 HX
            go_wp2
            obtain ⟨f', hf', HF3⟩ := HI3.out
            go_roundg (s.size - (pos + d2))
            case measure => omega
            case rel => exact ⟨pos + d2, f', rfl, by omega, by omega, hf', HF3, HT3, HB3, C83⟩
        · have e5 : ((d1 : Int) == 65533) = false := by simp; omega
          have HI3 : Hid (∃ f', s.size ≤ pos + d2 + f' ∧ wcP K s f' (pos + d2) = R) := by obtain ⟨f', h0, h⟩ := HI2.out; rw [if_pos ⟨hk, fun h2 => h5 h2.1⟩] at h; exact ⟨f', h0, h⟩
          clear HI2 hk
          have hl1 : B < W1.heap.size := (Array.getElem?_eq_some_iff.1 HT1.out).1
          go_wp2_with (go_at_fn j; refine Stop.mk ?_)
          refine Stop.out (cK.mono ?_)
          rintro e W2 ⟨rfl, hb2⟩
          have HB2 : Hid (Below w.heap.size w W2) := HB1.out.trans (hb2.mono HB1.out.size)
          have HT3 : Hid (W2.heap[B]? = some (.stringIter s (pos + d2))) := (hb2.block B hl1).trans HT1.out
          have C83 : Hid (W2.cell? ⟨w.heap.size, 8, none⟩ = some (.func (.func j) #[] #[])) := (hb2.cell (clt c81)).trans c81
          clear hb2 HX
          go_wp2
          obtain ⟨f', hf', HF3⟩ := HI3.out
          go_roundg (s.size - (pos + d2))
          case measure => omega
          case rel => exact ⟨pos + d2, f', rfl, by omega, by omega, hf', HF3, HT3, HB2, C83⟩
    · have hnx : ∀ ty, (Instr.next (.pointer (some ⟨B, 0, none⟩)) true ty).run Tryz.prog wr = _ := fun ty => Lib.run_next_end_at wr B s pos ty HT.out hlt
      obtain rfl : -1 = R := by
        have := HI.out
        cases f with
        | zero => exact this
        | succ f => rw [wcP, if_neg hlt] at this; exact this
      clear HI HC
      go_wp2
      go_ret
      exact ⟨rfl, HB.out⟩
end Go.Proofs.YtgdemlebohlolaaGreatDoor.Ck
