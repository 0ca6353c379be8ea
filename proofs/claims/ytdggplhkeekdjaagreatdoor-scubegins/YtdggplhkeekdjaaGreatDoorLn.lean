import Derived.Test.YtdggplhkeekdjaaGreatDoorLm
import Derived.Test.YtdggplhkeekdjaaGreatDoorLl
/-
  DERIVED. Which characters the program refuses: wrongChar.
-/
namespace Go.Proofs.YtdggplhkeekdjaaGreatDoor.Ck
open Go Go.Proofs Go.RowKit

/-- Where the first character begins that may not be there. -/
def wcP (K : Int → Bool) (s : ByteArray) : Nat → Nat → Int
  | 0, _ => -1
  | f + 1, i => if i < s.size then (if K ((Utf8.decode s i).1 : Nat) = true ∧ ¬ ((Utf8.decode s i).1 = 65533 ∧ (Utf8.decode s i).2 = 1) then wcP K s f (i + (Utf8.decode s i).2) else (i : Int)) else -1
/-- A kind of characters: what the function says. -/
def ChF (j : Nat) (K : Int → Bool) : Prop := (∀ args w, (callFunc j args).run Tryz.prog w = .ok (.enter j args) w) ∧ ∀ (W : World) (c : Int), Calls Tryz.prog j #[.int .i32 c] W fun e w' => e = .returned (.bool (K c)) ∧ Below W.heap.size W w'
theorem eq41 (j : Nat) (W : World) : (binOp .eql 177 (.func (.func j) #[] #[]) .nilFunc).run Tryz.prog W = .ok (.bool false) W := by kernel_rfl
theorem eq41n (W : World) : (binOp .eql 177 .nilFunc .nilFunc).run Tryz.prog W = .ok (.bool true) W := by kernel_rfl
theorem ne42 (j : Nat) (W : World) : (binOp .neq 99 (.func (.func j) #[] #[]) .nilFunc).run Tryz.prog W = .ok (.bool true) W := by kernel_rfl
theorem ne42n (W : World) : (binOp .neq 99 .nilFunc .nilFunc).run Tryz.prog W = .ok (.bool false) W := by kernel_rfl
set_option maxRecDepth 100000 in
theorem wrongChar_nil (w : World) (n : ByteArray) (p : Int) (u m : Nat) (t c q l : Bool) (ff : Value) (s : ByteArray) :
    Calls Tryz.prog 85 #[.agg (rpC n p u m t c q l .nilFunc ff), .string s] w fun e w' => e = .returned (.int .i64 (-1)) ∧ Below w.heap.size w w' := by
  obtain ⟨W0, hW0⟩ : ∃ W0, w.alloc (.cells (rpC n p u m t c q l .nilFunc ff) 179) = W0 := ⟨_, rfl⟩
  have hb0 : Below w.heap.size w W0 := hW0 ▸ (Below.refl _ _).alloc (Nat.le_refl _) _
  have c8 : W0.cell? ⟨w.heap.size, 8, none⟩ = some .nilFunc := by rw [← hW0]; simp [rpC]
  have HB : Hid (Below w.heap.size w W0) := hb0
  unfold rpC at hW0 ⊢
  clear hb0
  have q41 := eq41n
  go_enter Tryz.func85, Tryz.ntmps85
  go_wp2
  go_ret
  exact ⟨rfl, HB.out⟩
set_option maxRecDepth 100000 in
set_option maxHeartbeats 4000000 in
theorem wrongChar_any (w : World) (n : ByteArray) (p : Int) (u m : Nat) (t c q l : Bool) (j : Nat) (ff : Value) (s : ByteArray) (hs : s.size ≤ 140737488351232) (K : Int → Bool) (hK : ChF j K) (hG : Gb w) :
    Calls Tryz.prog 85 #[.agg (rpC n p u m t c q l (.func (.func j) #[] #[]) ff), .string s] w fun e w' => e = .returned (.int .i64 (wcP K s s.size 0)) ∧ Below w.heap.size w w' := by
  obtain ⟨W0, hW0⟩ : ∃ W0, w.alloc (.cells (rpC n p u m t c q l (.func (.func j) #[] #[]) ff) 179) = W0 := ⟨_, rfl⟩
  have hb0 : Below w.heap.size w W0 := hW0 ▸ (Below.refl _ _).alloc (Nat.le_refl _) _
  have c8 : W0.cell? ⟨w.heap.size, 8, none⟩ = some (.func (.func j) #[] #[]) := by rw [← hW0]; simp [rpC]
  have hsz : w.heap.size < W0.heap.size := clt c8
  have HB : Hid (Below w.heap.size w W0) := hb0
  have C8 : Hid (W0.cell? ⟨w.heap.size, 8, none⟩ = some (.func (.func j) #[] #[])) := c8
  have HG : Hid (Gb w) := hG
  obtain ⟨R, hR⟩ : ∃ R, wcP K s s.size 0 = R := ⟨_, rfl⟩
  have HR : Hid (wcP K s s.size 0 = R) := hR
  rw [hR]
  obtain ⟨hE, hC⟩ := hK
  have HC : Hid (∀ (W : World) (c : Int), Calls Tryz.prog j #[.int .i32 c] W fun e w' => e = .returned (.bool (K c)) ∧ Below W.heap.size W w') := hC
  obtain ⟨B, hBB⟩ : ∃ B, W0.heap.size = B := ⟨_, rfl⟩
  have HS : Hid (w.heap.size < B) := hBB ▸ hsz
  unfold rpC at hW0 ⊢
  clear hb0 hR hC hsz hG
  have q41 := eq41 j
  go_enter Tryz.func85, Tryz.ntmps85
  go_wp2
  go_loopg [4] s.size (fun g s4 wx => ∃ pos f : Nat, s4 = .int .i64 0 ∧ pos ≤ s.size ∧ g + pos = s.size ∧ Hid (s.size ≤ pos + f) ∧ Hid (wcP K s f pos = R) ∧ Hid (wx.heap[B]? = some (.stringIter s pos)) ∧ Hid (Below w.heap.size w wx) ∧ Hid (wx.cell? ⟨w.heap.size, 8, none⟩ = some (.func (.func j) #[] #[])))
  case atStart =>
    refine ⟨0, s.size, rfl, by omega, by omega, by show _ ≤ _; omega, HR, ?_, ?_, ?_⟩
    · show _ = _; rw [← hBB]; exact World.iter_heap W0 s 0
    · exact HB.out.alloc (by have := HB.out.size; omega) _
    · exact (World.cell?_of_block (Below.heap_alloc W0 _ w.heap.size (by have := HS.out; omega))).trans C8.out
  case round =>
    clear HR C8 c8 HB hW0
    obtain ⟨pos, f, rfl, hp, hg, HF, HI, HT, HB, C8⟩ := hrel
    by_cases hlt : pos < s.size
    · have hnx : ∀ ty, (Instr.next (.pointer (some ⟨B, 0, none⟩)) true ty).run Tryz.prog wr = _ := fun ty => Lib.run_next_any_at wr B s pos ty HT.out hlt
      obtain ⟨hw1, hw2⟩ := dec_width s pos hlt
      have hd := decode_le s pos
      have HT1 : Hid ((wr.iterAt B s (pos + (Utf8.decode s pos).2)).heap[B]? = some (.stringIter s (pos + (Utf8.decode s pos).2))) := Lib.iterAt_heap wr B s pos (pos + (Utf8.decode s pos).2) HT.out
      have HB1 : Hid (Below w.heap.size w (wr.iterAt B s (pos + (Utf8.decode s pos).2))) := Lib.below_iterAt HB.out (k := B) (Nat.le_of_lt HS.out) s (pos + (Utf8.decode s pos).2)
      have c81 : (wr.iterAt B s (pos + (Utf8.decode s pos).2)).cell? ⟨w.heap.size, 8, none⟩ = some (.func (.func j) #[] #[]) := (World.cell?_of_block (Lib.iterAt_other wr B w.heap.size s (pos + (Utf8.decode s pos).2) (by have := HS.out; omega))).trans C8.out
      have HX : Hid (∀ W, Gb W → Calls Tryz.prog 104 #[.string (s.extract pos s.size)] W fun e w' => e = .returned (.bool (decide ((Utf8.decode s pos).2 = 1))) ∧ Below W.heap.size W w') := fun W hg => stray_any W s pos hlt hg
      have HI2 : Hid (∃ f', s.size ≤ pos + (Utf8.decode s pos).2 + f' ∧ (if K ((Utf8.decode s pos).1 : Nat) = true ∧ ¬ ((Utf8.decode s pos).1 = 65533 ∧ (Utf8.decode s pos).2 = 1) then wcP K s f' (pos + (Utf8.decode s pos).2) else (pos : Int)) = R) := by
        have h1 := HF.out
        have h2 := HI.out
        obtain ⟨f', rfl⟩ : ∃ f', f = f' + 1 := ⟨f - 1, by omega⟩
        rw [wcP, if_pos hlt] at h2
        exact ⟨f', by omega, h2⟩
      clear HF HI HT HB C8
      have cK := HC.out (wr.iterAt B s (pos + (Utf8.decode s pos).2)) ((Utf8.decode s pos).1 : Nat)
      generalize (Utf8.decode s pos).1 = d1 at *
      generalize (Utf8.decode s pos).2 = d2 at *
      generalize wr.iterAt B s (pos + d2) = W1 at *
      have ip : (pos : Int) ≤ (s.size : Int) := by omega
      cases hk : K (d1 : Nat) with
      | false =>
        rw [hk] at cK
        obtain rfl : (pos : Int) = R := by obtain ⟨f', _, h⟩ := HI2.out; rw [if_neg (fun h2 => by rw [hk] at h2; exact absurd h2.1 (by decide))] at h; exact h
        clear HI2 hk HX
        go_wp2_with (go_at_fn j; refine Stop.mk ?_)
        refine Stop.out (cK.mono ?_)
        rintro e W2 ⟨rfl, hb2⟩
        have HB2 : Hid (Below w.heap.size w W2) := HB1.out.trans (hb2.mono HB1.out.size)
        clear hb2
        go_wp2
        go_ret
        exact ⟨rfl, HB2.out⟩
      | true =>
        rw [hk] at cK
        by_cases h5 : d1 = 65533
        · have e5 : ((d1 : Int) == 65533) = true := by simp; omega
          by_cases h1 : d2 = 1
          · obtain rfl : (pos : Int) = R := by obtain ⟨f', _, h⟩ := HI2.out; rw [if_neg (fun h2 => h2.2 ⟨h5, h1⟩)] at h; exact h
            rw [decide_eq_true h1] at HX
            clear HI2 hk h5 h1
            go_wp2_with (go_at_fn j; refine Stop.mk ?_)
            refine Stop.out (cK.mono ?_)
            rintro e W2 ⟨rfl, hb2⟩
            have HB2 : Hid (Below w.heap.size w W2) := HB1.out.trans (hb2.mono HB1.out.size)
            have cX := HX.out W2 (HG.out.on HB2.out)
            clear hb2 HX
            go_wp2_with (go_at_call 104; refine Stop.mk ?_)
            refine Stop.out (cX.mono ?_)
            rintro e W3 ⟨rfl, hb3⟩
            have HB3 : Hid (Below w.heap.size w W3) := HB2.out.trans (hb3.mono HB2.out.size)
            clear hb3
            go_wp2
            go_ret
            exact ⟨rfl, HB3.out⟩
          · rw [decide_eq_false h1] at HX
            have HI3 : Hid (∃ f', s.size ≤ pos + d2 + f' ∧ wcP K s f' (pos + d2) = R) := by obtain ⟨f', h0, h⟩ := HI2.out; rw [if_pos ⟨hk, fun h2 => h1 h2.2⟩] at h; exact ⟨f', h0, h⟩
            clear HI2 hk h5
            have hl1 : B < W1.heap.size := (Array.getElem?_eq_some_iff.1 HT1.out).1
            go_wp2_with (go_at_fn j; refine Stop.mk ?_)
            refine Stop.out (cK.mono ?_)
            rintro e W2 ⟨rfl, hb2⟩
            have HB2 : Hid (Below w.heap.size w W2) := HB1.out.trans (hb2.mono HB1.out.size)
            have cX := HX.out W2 (HG.out.on HB2.out)
            have hl2 := hb2.size
            go_wp2_with (go_at_call 104; refine Stop.mk ?_)
            refine Stop.out (cX.mono ?_)
            rintro e W3 ⟨rfl, hb3⟩
            have HB3 : Hid (Below w.heap.size w W3) := HB2.out.trans (hb3.mono HB2.out.size)
            have hb13 : Below W1.heap.size W1 W3 := hb2.trans (hb3.mono hl2)
            have HT3 : Hid (W3.heap[B]? = some (.stringIter s (pos + d2))) := (hb13.block B hl1).trans HT1.out
            have C83 : Hid (W3.cell? ⟨w.heap.size, 8, none⟩ = some (.func (.func j) #[] #[])) := (hb13.cell (clt c81)).trans c81
            clear hb3 hb2 hb13 HX
            go_wp2
            obtain ⟨f', hf', HF3⟩ := HI3.out
            go_roundg (s.size - (pos + d2))
            case measure => omega
            case rel => exact ⟨pos + d2, f', rfl, by omega, by omega, hf', HF3, HT3, HB3, C83⟩
        · have e5 : ((d1 : Int) == 65533) = false := by simp; omega
          have HI3 : Hid (∃ f', s.size ≤ pos + d2 + f' ∧ wcP K s f' (pos + d2) = R) := by obtain ⟨f', h0, h⟩ := HI2.out; rw [if_pos ⟨hk, fun h2 => h5 h2.1⟩] at h; exact ⟨f', h0, h⟩
          clear HI2 hk
          have hl1 : B < W1.heap.size := (Array.getElem?_eq_some_iff.1 HT1.out).1
          go_wp2_with (go_at_fn j; refine Stop.mk ?_)
          refine Stop.out (cK.mono ?_)
          rintro e W2 ⟨rfl, hb2⟩
          have HB2 : Hid (Below w.heap.size w W2) := HB1.out.trans (hb2.mono HB1.out.size)
          have HT3 : Hid (W2.heap[B]? = some (.stringIter s (pos + d2))) := (hb2.block B hl1).trans HT1.out
          have C83 : Hid (W2.cell? ⟨w.heap.size, 8, none⟩ = some (.func (.func j) #[] #[])) := (hb2.cell (clt c81)).trans c81
          clear hb2 HX
          go_wp2
          obtain ⟨f', hf', HF3⟩ := HI3.out
          go_roundg (s.size - (pos + d2))
          case measure => omega
          case rel => exact ⟨pos + d2, f', rfl, by omega, by omega, hf', HF3, HT3, HB2, C83⟩
    · have hnx : ∀ ty, (Instr.next (.pointer (some ⟨B, 0, none⟩)) true ty).run Tryz.prog wr = _ := fun ty => Lib.run_next_end_at wr B s pos ty HT.out hlt
      obtain rfl : -1 = R := by
        have := HI.out
        cases f with
        | zero => exact this
        | succ f => rw [wcP, if_neg hlt] at this; exact this
      clear HI HC
      go_wp2
      go_ret
      exact ⟨rfl, HB.out⟩
end Go.Proofs.YtdggplhkeekdjaaGreatDoor.Ck
