import Derived.Test.YtnheeenkdjmhoaaDoorN
import Derived.Lib.QuietBelow
/-
  DERIVED. The marks that a header names.
-/
namespace Go.Proofs.YtnheeenkdjmhoaaDoor
open Go Go.Proofs Go.RowKit Go.Sort

/-- A header as it may be. -/
def HdOK (t : List UInt8) : Prop := 9 ≤ t.length ∧ t.take 3 = [77, 83, 72] ∧ MarksOK ((t.drop 3).take 5) ∧ t.getD 8 0 = t.getD 3 0
theorem trimL_len (l : List UInt8) : (trimL l).length ≤ l.length := by
  unfold trimL; split <;> simp
theorem tl_getD (s : ByteArray) (k : Nat) (h : k < s.size) : (tl s).getD k 0 = s[k] := by
  rw [List.getD_eq_getElem?_getD, List.getElem?_eq_getElem (by rw [tl_len]; exact h), tl_get s k h]; rfl

set_option maxRecDepth 100000 in
set_option maxHeartbeats 2000000 in
theorem marksOf_any (w : World) (s : ByteArray) (hs : s.size ≤ maxLen) : Calls Tryd.prog 40 #[.string s] w fun e w' => ∃ (mk : ByteArray) (b : Bool), e = .returned (.tuple #[.string mk, .bool b]) ∧ (b = true ↔ HdOK (trimL (tl s))) ∧ (b = true → tl mk = ((trimL (tl s)).drop 3).take 5) ∧ Below w.heap.size w w' := by
  have hm : Tryd.prog.follows .mixedOrders = true := by kernel_rfl
  have ht := trim_any w s hs
  have hlen : (trimL (tl s)).length ≤ s.size := by rw [← tl_len]; exact trimL_len _
  unfold maxLen at hs
  obtain ⟨t, htt⟩ : ∃ t, trimL (tl s) = t := ⟨_, rfl⟩
  rw [htt] at ht hlen ⊢
  clear htt
  go_enter Tryd.func40, Tryd.ntmps40
  go_wp2_with (go_at_call 42; refine StopF.out ?_)
  refine StopF.mk (ht.mono ?_)
  rintro e w' ⟨o, rfl, ho, rfl⟩
  clear ht
  subst ho
  rw [tl_len] at hlen
  by_cases h9 : 9 ≤ o.size
  · have t1 : decide ((o.size : Int) < 9) = false := by simp; omega
    have e3 : tl (o.extract 0 3) = (tl o).take 3 := by rw [tl_extract]; rfl
    by_cases hM : (tl o).take 3 = [77, 83, 72]
    · have t2 : ((o.extract 0 3).toList == [77, 83, 72]) = true := by rw [ByteArray.toList_eq]; rw [hM] at e3; simpa [tl] using e3
      have e5 : tl (o.extract 3 8) = ((tl o).drop 3).take 5 := by rw [tl_extract, List.drop_take]
      obtain ⟨mk, hmk⟩ : ∃ mk, o.extract 3 8 = mk := ⟨_, rfl⟩
      rw [hmk] at e5
      have hmz : mk.size = 5 := by rw [← hmk]; exact size_between o (by omega)
      have g8 : (o[8]'(by omega)) = (tl o).getD 8 0 := (tl_getD o 8 (by omega)).symm
      have g3 : (mk[0]'(by omega)) = (tl o).getD 3 0 := by
        rw [← tl_getD mk 0 (by omega), e5, tl_getD o 3 (by omega), ← tl_get o 3 (by omega)]
        rw [List.getD_eq_getElem?_getD, List.getElem?_eq_getElem (by rw [List.length_take, List.length_drop, tl_len]; omega)]
        simp
      obtain ⟨a, ha⟩ : ∃ a, (o[8]'(by omega)).toNat = a := ⟨_, rfl⟩
      obtain ⟨b, hb⟩ : ∃ b, (mk[0]'(by omega)).toNat = b := ⟨_, rfl⟩
      have hab : a = b ↔ (tl o).getD 8 0 = (tl o).getD 3 0 := by
        rw [← ha, ← hb, g8, g3]; exact UInt8.toNat_inj
      have HAB : Hid (a = b ↔ (tl o).getD 8 0 = (tl o).getD 3 0) := hab
      have HE5 : Hid (tl mk = ((tl o).drop 3).take 5) := e5
      have HM : Hid ((tl o).take 3 = [77, 83, 72]) := hM
      by_cases hK : MarksOK (tl mk)
      · have c25 : ∀ d os, Calls Tryd.prog 25 #[.string mk] (grow (redrawn w d) os) fun x w'' => x = .returned (.bool true) ∧ ∃ p : Regrown, w'' = grow (redrawn w p.d) p.os := fun d os => Calls.regrown_of ((marks_any _ mk).mono fun e w' ⟨b, h1, h2, h3⟩ => ⟨by rw [h1, h2.2 hK], h3⟩)
        have HK : Hid (MarksOK (tl mk)) := hK
        clear hK hab e5 hM g8 g3 e3
        have h8i : (8 : Int) < (o.size : Int) := by omega
        have h0i : (0 : Int) < (mk.size : Int) := by omega
        go_wp2
        refine wp_region_quiet_below hm (by kernel_rfl) ?_
        repeat (quiet_step (first | exact c25 _ _))
        refine wpQuiet_nil ?_
        intro _ hw'
        obtain ⟨⟨dq, osq⟩, hw''⟩ := hw'
        subst hw''
        have hBW := below_regrown w dq osq
        clear c25
        go_wp2
        refine bodyPost_ret (v := .tuple #[.string mk, .bool ((a : Int) == (b : Int))]) (by simp [results, Tryd.results40, go_sem]) rfl ?_
        refine ⟨mk, _, rfl, ⟨fun h => ?_, fun h => ?_⟩, fun _ => HE5.out, hBW⟩
        · exact ⟨by rw [tl_len]; exact h9, HM.out, HE5.out ▸ HK.out, HAB.out.1 (by have h2 := h; simp at h2; omega)⟩
        · have := HAB.out.2 h.2.2.2; simp [this]
      · have c25 : ∀ d os, Calls Tryd.prog 25 #[.string mk] (grow (redrawn w d) os) fun x w'' => x = .returned (.bool false) ∧ ∃ p : Regrown, w'' = grow (redrawn w p.d) p.os := fun d os => Calls.regrown_of ((marks_any _ mk).mono fun e w' ⟨b, h1, h2, h3⟩ => ⟨by rw [h1]; cases b with
            | false => rfl
            | true => exact absurd (h2.1 rfl) hK, h3⟩)
        have HK : Hid (¬ MarksOK (tl mk)) := hK
        clear hK hab e5 hM g8 g3 e3
        go_wp2
        refine wp_region_quiet_below hm (by kernel_rfl) ?_
        repeat (quiet_step (first | exact c25 _ _))
        refine wpQuiet_nil ?_
        intro _ hw'
        obtain ⟨⟨dq, osq⟩, hw''⟩ := hw'
        subst hw''
        have hBW := below_regrown w dq osq
        clear c25
        go_wp2
        refine bodyPost_ret (v := .tuple #[.string mk, .bool false]) (by simp [results, Tryd.results40, go_sem]) rfl ?_
        refine ⟨mk, _, rfl, ⟨fun h => (by cases h), fun h => ?_⟩, fun _ => HE5.out, hBW⟩
        exact absurd (HE5.out ▸ h.2.2.1) HK.out
    · have t2 : ((o.extract 0 3).toList == [77, 83, 72]) = false := by
        rw [ByteArray.toList_eq]
        simp only [beq_eq_false_iff_ne]
        intro hh
        exact hM (e3.symm.trans hh)
      go_wp2
      refine bodyPost_ret (v := .tuple #[.string { data := #[] }, .bool false]) (by simp [results, Tryd.results40, go_sem]) rfl ?_
      exact ⟨_, _, rfl, ⟨fun h => (by cases h), fun h => absurd h.2.1 hM⟩, fun h => (by cases h), Below.refl _ _⟩
  · have t1 : decide ((o.size : Int) < 9) = true := by simp; omega
    go_wp2
    refine bodyPost_ret (v := .tuple #[.string { data := #[] }, .bool false]) (by simp [results, Tryd.results40, go_sem]) rfl ?_
    exact ⟨_, _, rfl, ⟨fun h => (by cases h), fun h => absurd (by have := h.1; rw [tl_len] at this; exact this) h9⟩, fun h => (by cases h), Below.refl _ _⟩
end Go.Proofs.YtnheeenkdjmhoaaDoor
