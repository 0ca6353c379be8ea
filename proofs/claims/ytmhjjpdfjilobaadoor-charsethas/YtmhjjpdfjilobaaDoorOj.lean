import Derived.Test.YtmhjjpdfjilobaaDoorOi
/-
  DERIVED. The law of Has.
-/
namespace Go.Proofs.YtmhjjpdfjilobaaDoor
open Go Go.Proofs Go.RowKit Go.Maps

/-- What holds ahead of each question. -/
structure AskInv (w wr : World) (q H p : Nat) (u u2 : Value) (a : Row) (R : List Row) (N : List (Nat × ByteArray)) (x : Bool) : Prop where
  s : SetIn wr q u (a :: R) x
  k : RSetAt wr H p u2 N x
  b : Below w.heap.size w wr
  t : Tabs wr
  rt : RTabs wr

/-- One question, to both. -/
theorem AskInv.has {w wr : World} {q H p : Nat} {u u2 : Value} {a : Row} {R : List Row} {N : List (Nat × ByteArray)} {x : Bool} (h : AskInv w wr q H p u u2 a R N x) (h5 : 5 < w.heap.size) (hq : w.heap.size < q) (hN : namesOf (a :: R) = N) (h6 : (a :: R).length ≤ 6) (h7 : ∀ b ∈ a :: R, b.1 < 7) (r : Int) (hr0 : -2147483648 ≤ r) (hr1 : r < 2147483648) :
    Calls Tryd.prog 16 #[.pointer (some ⟨q, 0, none⟩), .int .i32 r] wr fun e w' => e = .returned (.bool (hasS a R r)) ∧ AskInv w w' q H p u u2 a R N x := by
  refine (has_all wr q u a R x r hr0 hr1 h.s h6 h7 h.t (by omega)).mono ?_
  rintro e w' ⟨rfl, hs, hk⟩
  have hqs : ∀ b ∈ a :: R, q < b.2.2 := fun b hb => (h.s.st b hb).2
  have hbq : Below q wr w' := hk.below hqs (Nat.le_of_lt (cell_lt h.s.c0))
  refine ⟨rfl, hs, h.k.kept (by rw [← hN]; simp [namesOf]) h.s hk, h.b.trans (hbq.mono (by omega)), h.t.below hbq (by omega), h.rt.below hbq (by omega)⟩
theorem AskInv.rhas {w wr : World} {q H p : Nat} {u u2 : Value} {a : Row} {R : List Row} {N : List (Nat × ByteArray)} {x : Bool} (h : AskInv w wr q H p u u2 a R N x) (h6 : N.length ≤ 6) (h7 : ∀ b ∈ N, b.1 < 7) (r : Int) :
    Calls Tryd.prog 17 #[.pointer (some ⟨p, 0, none⟩), .int .i32 r] wr fun e w' => e = .returned (.bool (rhasS N r)) ∧ wr = w' := rhas_all wr H p u2 N x r h.k h6 h7 h.rt

set_option maxRecDepth 100000 in
set_option maxHeartbeats 2000000 in
theorem hases_yes (w : World) (v : Value) (T : List ByteArray) (N : List (Nat × ByteArray)) (x : Bool) (r : Int) (hr0 : -2147483648 ≤ r) (hr1 : r < 2147483648) (hr : newS T = .inr (N, x)) (hT : TS w v T) (hl : T.length ≤ 8796093021952) (hsz : ∀ s ∈ T, s.size ≤ 140737488351232) (hS : Spell w) (hTb : Tabs w) (hRT : RTabs w) :
    Calls Tryd.prog 4 #[v, .int .i32 r] w fun e w' => e = .returned (.bool true) ∧ Below w.heap.size w w' := by
  have c8 := begin_any w v T hT hl hsz hS
  rw [hr] at c8
  obtain ⟨hG, hN0, hN6⟩ := newS_good hr
  obtain ⟨hnd, hsix⟩ := newS_apart hr
  have h5 : 5 < w.heap.size := cell_lt (hTb.p2 0 (by decide))
  obtain ⟨ao, cap, rfl, _⟩ := hT
  clear hr hsz hl
  go_enter Tryd.func4, Tryd.ntmps4
  go_wp2_with (go_at_call 8; fail)
  refine c8.mono ?_
  rintro e W1 ⟨s, k, rfl, ⟨q, u, R, p, u2, H, rfl, rfl, hlq, hlH, hlp, hset, hnames, hrset⟩, hb1⟩
  have hRl : R.length = N.length := by rw [← hnames, names_len]
  have h7R : ∀ b ∈ R, b.1 < 7 := fun b hb => (hG (b.1, b.2.1) (by rw [← hnames]; exact List.mem_map.2 ⟨b, hb, rfl⟩)).1
  have h6R : R.length = 1 ∨ ∀ b ∈ R, b.1 ≠ 6 := by
    rcases hsix with h | h
    · exact .inl (by omega)
    · exact .inr (fun b hb => h (b.1, b.2.1) (by rw [← hnames]; exact List.mem_map.2 ⟨b, hb, rfl⟩))
  have hin := hset.ask h7R (by rw [hnames]; exact hnd) h6R
  obtain ⟨a, R0, rfl⟩ : ∃ a R0, R = a :: R0 := by
    cases R with
    | nil => simp at hRl; omega
    | cons a b => exact ⟨a, b, rfl⟩
  have hsame : ∀ z, hasS a R0 z = rhasS N z := fun z => by
    rw [← hnames]
    refine has_same a R0 z h7R ?_
    rcases h6R with h | h
    · exact .inl (by cases R0 with | nil => rfl | cons b c => simp at h)
    · exact .inr h
  have HI : Hid (AskInv w W1 q H p u u2 a R0 N x) := ⟨hin, hrset, hb1, hTb.below hb1 h5, hRT.below hb1 h5⟩
  have HP : Hid (∀ wr, AskInv w wr q H p u u2 a R0 N x → ∀ z : Int, -2147483648 ≤ z → z < 2147483648 → (Calls Tryd.prog 16 #[.pointer (some ⟨q, 0, none⟩), .int .i32 z] wr fun e w' => e = .returned (.bool (rhasS N z)) ∧ AskInv w w' q H p u u2 a R0 N x)) := fun wr h z h0 h1 => by
    have := h.has h5 hlq hnames (by rw [hRl]; exact hN6) h7R z h0 h1
    rw [hsame z] at this
    exact this
  have HQ : Hid (∀ wr, AskInv w wr q H p u u2 a R0 N x → ∀ z : Int, (Calls Tryd.prog 17 #[.pointer (some ⟨p, 0, none⟩), .int .i32 z] wr fun e w' => e = .returned (.bool (rhasS N z)) ∧ wr = w')) := fun wr h z => h.rhas hN6 (fun b hb => (hG b hb).1) z
  clear hin hset hrset hb1 hsame hG hnd hsix h6R h7R hnames hRl hlq hlH hlp hTb hRT hS c8
  go_wp2
  go_loopw [8] (fun y wr => ∃ i : Nat, y = .int .i32 (i : Int) ∧ i ≤ 64 ∧ Hid (AskInv w wr q H p u u2 a R0 N x)) (fun y _ => 64 - (intOf y).toNat)
  case atStart => exact ⟨0, rfl, by omega, HI⟩
  case round =>
    obtain ⟨i, rfl, hi, HA⟩ := hrel
    by_cases hi64 : i < 64
    · have hw : -2147483648 ≤ wrap32 (r + (i : Int)) ∧ wrap32 (r + (i : Int)) < 2147483648 := by unfold wrap32; omega
      have c16 := HP.out wr HA.out (wrap32 (r + (i : Int))) hw.1 hw.2
      go_wp2_with (go_at_call 16; fail)
      refine c16.mono ?_
      rintro e W2 ⟨rfl, hA2⟩
      have HA2 : Hid (AskInv w W2 q H p u u2 a R0 N x) := hA2
      have c17 := HQ.out W2 hA2 (wrap32 (r + (i : Int)))
      generalize rhasS N (wrap32 (r + (i : Int))) = bb at c17
      clear hA2 c16 hw
      go_wp2_with (go_at_call 17; refine c17.mono ?_; rintro e W3 ⟨rfl, rfl⟩)
      cases bb
      all_goals go_wp2
      all_goals exact ⟨⟨i + 1, by simp, by omega, HA2⟩, by simp [intOf]; omega⟩
    · obtain rfl : i = 64 := by omega
      have c16 := HP.out wr HA.out r hr0 hr1
      go_wp2_with (go_at_call 16; fail)
      refine c16.mono ?_
      rintro e W2 ⟨rfl, hA2⟩
      have HA2 : Hid (AskInv w W2 q H p u u2 a R0 N x) := hA2
      have c17 := HQ.out W2 hA2 r
      generalize rhasS N r = bb at c17
      clear hA2 c16
      go_wp2_with (go_at_call 17; refine c17.mono ?_; rintro e W3 ⟨rfl, rfl⟩)
      go_ret
      exact ⟨by simp, HA2.out.b⟩

set_option maxRecDepth 100000 in
theorem hases_no (w : World) (v : Value) (T : List ByteArray) (a : Int × Int) (r : Int) (hr : newS T = .inl a) (hT : TS w v T) (hl : T.length ≤ 8796093021952) (hsz : ∀ s ∈ T, s.size ≤ 140737488351232) (hS : Spell w) :
    Calls Tryd.prog 4 #[v, .int .i32 r] w fun e w' => e = .returned (.bool true) ∧ Below w.heap.size w w' := by
  have c8 := begin_any w v T hT hl hsz hS
  rw [hr] at c8
  obtain ⟨ao, cap, rfl, _⟩ := hT
  clear hr hsz hl
  go_enter Tryd.func4, Tryd.ntmps4
  go_wp2_with (go_at_call 8; fail)
  refine c8.mono ?_
  rintro e W1 ⟨s, k, rfl, ⟨rfl, rfl⟩, hb1⟩
  go_wp2
  go_ret
  exact ⟨rfl, hb1⟩

theorem hases_any (w : World) (v : Value) (T : List ByteArray) (r : Int) (hr0 : -2147483648 ≤ r) (hr1 : r < 2147483648) (hT : TS w v T) (hl : T.length ≤ 8796093021952) (hsz : ∀ s ∈ T, s.size ≤ 140737488351232) (hS : Spell w) (hTb : Tabs w) (hRT : RTabs w) :
    Calls Tryd.prog 4 #[v, .int .i32 r] w fun e w' => e = .returned (.bool true) ∧ Below w.heap.size w w' := by
  cases hr : newS T with
  | inl a => exact hases_no w v T a r hr hT hl hsz hS
  | inr x =>
    obtain ⟨N, x⟩ := x
    exact hases_yes w v T N x r hr0 hr1 hr hT hl hsz hS hTb hRT
end Go.Proofs.YtmhjjpdfjilobaaDoor
