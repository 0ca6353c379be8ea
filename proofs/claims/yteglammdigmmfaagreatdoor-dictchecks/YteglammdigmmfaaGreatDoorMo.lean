import Derived.Test.YteglammdigmmfaaGreatDoorMn
/-
  DERIVED. The law.
-/
namespace Go.Proofs.YteglammdigmmfaaGreatDoor.Ck
open Go Go.Proofs Go.RowKit
open Go.Proofs.YteglammdigmmfaaGreatDoor.Sp (okV spT u8s)

/-- A refusal that both can tell. -/
def OkO (o : Option (List Lk × Int)) : Prop := ∀ x, o = some x → x.2 ≠ 0 ∧ 0 < x.1.length ∧ x.1.length ≤ 11
theorem is_opt (w : World) (r q : Value) (o : Option (List Lk × Int)) (ho : OkO o) (h1 : FltV w r o) (h2 : FltD w q o) : Calls Tryz.prog 4 #[r, q] w fun e w' => e = .returned (.bool true) ∧ Below w.heap.size w w' := by
  cases o with
  | none =>
    obtain rfl := show r = _ from h1
    obtain rfl := show q = _ from h2
    exact Rp.is_nil w
  | some x =>
    obtain ⟨a, b, c⟩ := ho x rfl
    obtain ⟨g, cap, rfl, hl⟩ := h2
    exact is_chain w x.1 x.2 r g cap _ h1 a rfl b c hl
theorem ok_ck (v : Int) (s : ByteArray) : OkO (ckK v s) := fun x hx => by
  rcases ck_one v s with h | ⟨a, c, h, hc⟩
  · rw [h] at hx; cases hx
  · rw [h] at hx; obtain rfl := Option.some.inj hx; exact ⟨hc, by simp, by simp⟩
theorem ok_vdL (v : Int) : ∀ T i, OkO (vdL v T i)
  | [], _ => fun x hx => by cases hx
  | y :: T, i => fun x hx => by
    rw [vdL] at hx
    rcases ck_one v y with h | ⟨a, c, h, hc⟩
    · rw [h] at hx; exact ok_vdL v T _ x hx
    · rw [h] at hx; obtain rfl := Option.some.inj hx; exact ⟨hc, by simp, by simp⟩
theorem ok_vd (v : Int) (s : ByteArray) : OkO (vdO v s) := by
  unfold vdO
  rcases bd_cases v s with ⟨h, _⟩ | ⟨a, c, h, hc⟩
  · rw [h]; exact ok_vdL v _ _
  · rw [h]; exact fun x hx => by obtain rfl := Option.some.inj hx; exact ⟨hc, by simp, by simp⟩
theorem ok_ft (t : Nat) (v : Int) (s : ByteArray) : OkO (ftO t v s) := by
  unfold ftO
  rcases bd_cases v s with ⟨h, _⟩ | ⟨a, c, h, hc⟩
  · rw [h]
    simp only
    split
    · exact fun x hx => by obtain rfl := Option.some.inj hx; exact ⟨show (66 : Int) ≠ 0 by decide, by simp, by simp⟩
    · exact ok_vd v s
  · rw [h]; exact fun x hx => by obtain rfl := Option.some.inj hx; exact ⟨hc, by simp, by simp⟩
set_option maxRecDepth 100000 in
set_option maxHeartbeats 8000000 in
theorem checks_any (w : World) (t : Nat) (ht : t < 4294967296) (v : Int) (s : ByteArray) (hs : s.size ≤ 140737488351232) (hG : Gb w) : Calls Tryz.prog 3 #[.int .u32 (t : Int), .int .i64 v, .string s] w fun e w' => e = .returned (.bool true) ∧ Below w.heap.size w w' := by
  have HG : Hid (Gb w) := hG
  clear hG
  go_enter Tryz.func3, Tryz.ntmps3
  go_wp2_with (go_at_call 5; refine Stop.mk ?_)
  refine Stop.out ((check_any _ v s hs HG.out).mono ?_)
  rintro e W1 ⟨r1, rfl, hf1, hb1⟩
  have HF1 : Hid (FltV W1 r1 (ckK v s)) := hf1
  have HB1 : Hid (Below w.heap.size w W1) := hb1
  clear hf1 hb1
  go_wp2_with (go_at_call 6; refine Stop.mk ?_)
  refine Stop.out ((rcheck_any _ v s hs).mono ?_)
  rintro e W2 ⟨r2, rfl, hf2, hb2⟩
  have HE1 : Hid (FltV W2 r1 (ckK v s)) := HF1.out.on hb2
  have HF2 : Hid (FltD W2 r2 (ckK v s)) := hf2
  have HB2 : Hid (Below w.heap.size w W2) := HB1.out.trans (hb2.mono HB1.out.size)
  clear hf2 hb2 HF1 HB1
  go_wp2_with (go_at_call 4; refine Stop.mk ?_)
  refine Stop.out ((is_opt _ r1 r2 _ (ok_ck v s) HE1.out HF2.out).mono ?_)
  rintro e W3 ⟨rfl, hb3⟩
  have HB3 : Hid (Below w.heap.size w W3) := HB2.out.trans (hb3.mono HB2.out.size)
  clear hb3 HB2 HE1 HF2
  go_wp2_with (go_at_call 7; refine Stop.mk ?_)
  refine Stop.out ((valid_any _ v s (HG.out.on HB3.out)).mono ?_)
  rintro e W4 ⟨r4, rfl, hf4, hb4⟩
  have HF4 : Hid (FltV W4 r4 (vdO v s)) := hf4
  have HB4 : Hid (Below w.heap.size w W4) := HB3.out.trans (hb4.mono HB3.out.size)
  clear hf4 hb4 HB3
  go_wp2_with (go_at_call 8; refine Stop.mk ?_)
  refine Stop.out ((rvalid_any _ v s).mono ?_)
  rintro e W5 ⟨r5, rfl, hf5, hb5⟩
  have HE4 : Hid (FltV W5 r4 (vdO v s)) := HF4.out.on hb5
  have HF5 : Hid (FltD W5 r5 (vdO v s)) := hf5
  have HB5 : Hid (Below w.heap.size w W5) := HB4.out.trans (hb5.mono HB4.out.size)
  clear hf5 hb5 HF4 HB4
  go_wp2_with (go_at_call 4; refine Stop.mk ?_)
  refine Stop.out ((is_opt _ r4 r5 _ (ok_vd v s) HE4.out HF5.out).mono ?_)
  rintro e W6 ⟨rfl, hb6⟩
  have HB6 : Hid (Below w.heap.size w W6) := HB5.out.trans (hb6.mono HB5.out.size)
  clear hb6 HB5 HE4 HF5
  go_wp2_with (go_at_call 9; refine Stop.mk ?_)
  refine Stop.out ((fits_all _ t ht v s (HG.out.on HB6.out)).mono ?_)
  rintro e W7 ⟨r7, rfl, hf7, hb7⟩
  have HF7 : Hid (FltV W7 r7 (ftO t v s)) := hf7
  have HB7 : Hid (Below w.heap.size w W7) := HB6.out.trans (hb7.mono HB6.out.size)
  clear hf7 hb7 HB6
  go_wp2_with (go_at_call 10; refine Stop.mk ?_)
  refine Stop.out ((rfits_all _ t ht v s).mono ?_)
  rintro e W8 ⟨r8, rfl, hf8, hb8⟩
  have HE7 : Hid (FltV W8 r7 (ftO t v s)) := HF7.out.on hb8
  have HF8 : Hid (FltD W8 r8 (ftO t v s)) := hf8
  have HB8 : Hid (Below w.heap.size w W8) := HB7.out.trans (hb8.mono HB7.out.size)
  clear hf8 hb8 HF7 HB7
  go_wp2_with (go_at_call 4; refine Stop.mk ?_)
  refine Stop.out ((is_opt _ r7 r8 _ (ok_ft t v s) HE7.out HF8.out).mono ?_)
  rintro e W9 ⟨rfl, hb9⟩
  have HB9 : Hid (Below w.heap.size w W9) := HB8.out.trans (hb9.mono HB8.out.size)
  clear hb9 HB8 HE7 HF8
  go_wp2
  go_ret
  exact ⟨rfl, HB9.out⟩
end Go.Proofs.YteglammdigmmfaaGreatDoor.Ck
