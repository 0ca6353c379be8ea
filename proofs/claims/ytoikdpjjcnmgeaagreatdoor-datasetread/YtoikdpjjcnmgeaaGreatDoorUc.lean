import Derived.Test.YtoikdpjjcnmgeaaGreatDoorUb
import Derived.Test.YtoikdpjjcnmgeaaGreatDoorQn
/-
  DERIVED. DatasetRead.
-/
namespace Go.Proofs.YtoikdpjjcnmgeaaGreatDoor
open Go Go.Proofs Go.RowKit
open Wk (Nd NV nds goN nxt)
open Go.Sort

set_option maxRecDepth 100000 in
/-- The law's own look: a data set. -/
theorem lformed_any (w : World) (a : Option Addr) (n cap : Nat) (L : List Nd) (hV : NV w a n cap L) (hT : TagsOk L) (h : (res L).2 = true) : Calls Tryz.prog 24 #[.slice a n cap] w fun e w' => e = .returned (.bool true) ∧ Below w.heap.size w w' := by
  have c53 := rformed_any some_zero w a n cap L hV hT
  have HR : Hid ((res L).2 = true) := h
  clear h hV hT
  go_enter Tryz.func24, Tryz.ntmps24
  go_wp2_with (go_at_call 53; refine StopQ.out ?_)
  refine ⟨Calls.mono c53 ?_⟩
  rintro e W1 ⟨vf, rfl, hr, hb1⟩
  obtain rfl : vf = .agg #[.slice none 0 0, .int .i64 0] := by
    rcases hr.out with ⟨-, h⟩ | ⟨h, -⟩
    · exact h
    · rw [HR.out] at h; cases h
  clear hr c53
  go_wp2_with (go_at_call 26; refine StopQ.out ?_)
  refine ⟨Calls.mono (any_none _) ?_⟩
  rintro e W2 ⟨rfl, hb2⟩
  have HB2 : Hid (Below w.heap.size w W2) := hb1.out.trans (hb2.mono hb1.out.size)
  clear hb2
  go_wp2
  go_ret
  exact ⟨rfl, HB2.out⟩
set_option maxRecDepth 100000 in
set_option maxHeartbeats 8000000 in
theorem read_law (w : World) (a : Option Addr) (n cap : Nat) (ys : List UInt8) (s : Int) (hV : BA w.heap.size w a n cap ys) (hE : EG w) : Calls Tryz.prog 6 #[.slice a n cap, .int .i64 s] w fun e w' => e = .returned (.bool true) ∧ Below w.heap.size w w' := by
  have HV : Hid (BA w.heap.size w a n cap ys) := hV
  have HE : Hid (EG w) := hE
  clear hV hE
  go_enter Tryz.func6, Tryz.ntmps6
  go_wp2_with (go_at_call 18; refine StopQ.out ?_)
  refine ⟨Calls.mono (alive_any w HE.out) ?_⟩
  rintro e W1 ⟨rfl, hb1⟩
  have HB1 : Hid (Below w.heap.size w W1) := hb1
  have HV1 : Hid (BA W1.heap.size W1 a n cap ys) := by
    have h := HV.out.on hb1
    exact ⟨h.l, h.c, h.s, fun k hk => by obtain ⟨b, off, e, h1, h2⟩ := h.m k hk; exact ⟨b, off, e, Nat.lt_of_lt_of_le h1 hb1.size, h2⟩⟩
  clear hb1
  go_wp2_with (go_at_call 10; refine StopQ.out ?_)
  refine ⟨Calls.mono (decode_any W1 a n cap ys s HV1.out) ?_⟩
  rintro e W2 ⟨nv, ve, rfl, hr, hb2⟩
  have HB2 : Hid (Below w.heap.size w W2) := HB1.out.trans (hb2.out.mono HB1.out.size)
  rcases hr.out with ⟨x, c, -, rfl, hc⟩ | ⟨M, ho, rfl, hw, hm, -⟩
  · obtain ⟨q, u, rfl, -⟩ := hc
    clear hr hb2
    go_wp2
    go_ret
    exact ⟨rfl, HB2.out⟩
  obtain ⟨a2, c2, rfl, hN⟩ := own_nvq hw rfl hm
  obtain ⟨hres, htag, hbk⟩ := okd_res ho
  have HN2 : Hid (NV W2 a2 M.length c2 M) := hN
  have HR : Hid ((res M).2 = true ∧ TagsOk M ∧ M.map (bkN (decide (s = 2))) = M) := ⟨hres, htag, hbk⟩
  have HE2 : Hid (EG W2) := HE.out.keep HB2.out
  obtain ⟨z, hz⟩ : ∃ z, (errOf s M).isSome = z := ⟨_, rfl⟩
  have HZ : Hid ((errOf s M).isSome = z) := hz
  have hs := ho.1
  have HBK : Hid (errOf s M = none → OkD s (outB s M) M) := fun h => by
    have := back_ok h HR.out.2.1
    rw [HR.out.2.2] at this
    exact this
  clear hr hb2 hw hm hN hres htag hbk hz ho HB1 HV1
  obtain ⟨m, hM⟩ : ∃ m, M.length = m := ⟨_, rfl⟩
  have HM : Hid (M.length = m) := hM
  rw [hM] at HN2 ⊢
  clear hM
  have HS : Hid (s = 1 ∨ s = 2) := hs
  have hs12 : (s == 1) = true ∨ ((s == 1) = false ∧ (s == 2) = true) := by
    rcases hs with rfl | rfl
    · exact .inl rfl
    · exact .inr ⟨rfl, rfl⟩
  clear hs
  rcases HS.out with rfl | rfl
  all_goals (
    clear hs12
    go_wp2_with (go_at_call 23; refine StopQ.out ?_)
    refine ⟨Calls.mono (formed_any W2 a2 m c2 M HN2.out HR.out.2.1) ?_⟩
    rintro e W3 ⟨vf, rfl, hp, hb3⟩
    obtain rfl : vf = .nilIface := by
      rcases hp.out with ⟨-, h⟩ | ⟨h, -⟩
      · exact h
      · rw [HR.out.1] at h; cases h
    have HN3 : Hid (NV W3 a2 m c2 M) := HN2.out.on hb3.out
    have HB3 : Hid (Below w.heap.size w W3) := HB2.out.trans (hb3.out.mono HB2.out.size)
    clear hp hb3
    go_wp2_with (go_at_call 24; refine StopQ.out ?_)
    refine ⟨Calls.mono (lformed_any W3 a2 m c2 M HN3.out HR.out.2.1 HR.out.1) ?_⟩
    rintro e W4 ⟨rfl, hb4⟩
    have HN4 : Hid (NV W4 a2 m c2 M) := HN3.out.on hb4
    have HB4 : Hid (Below w.heap.size w W4) := HB3.out.trans (hb4.mono HB3.out.size)
    clear hb4
    go_wp2_with (go_at_call 25; refine StopQ.out ?_)
    refine ⟨Calls.mono (rsize_any some_zero W4 a2 m c2 M HN4.out HR.out.2.1 _) ?_⟩
    rintro e W5 ⟨vf, rfl, hp5, hb5⟩
    obtain ⟨fa, fm, fc, fz, hvf⟩ := rerr_form hp5
    subst hvf
    have HP5 : Hid _ := hp5
    have HN5 : Hid (NV W5 a2 m c2 M) := HN4.out.on hb5
    have HB5 : Hid (Below w.heap.size w W5) := HB4.out.trans (hb5.mono HB4.out.size)
    obtain ⟨W6, hW6⟩ : ∃ W6, W5.alloc (.cells #[.slice fa fm fc, .int .i64 fz] 32) = W6 := ⟨_, rfl⟩
    have hb6 : Below W5.heap.size W5 W6 := by rw [← hW6]; exact (Below.refl _ _).alloc (Nat.le_refl _) _
    have d0 : W6.cell? ⟨W5.heap.size, 0, none⟩ = some (.slice fa fm fc) := by rw [← hW6]; simp
    have d1 : W6.cell? ⟨W5.heap.size, 1, none⟩ = some (.int .i64 fz) := by rw [← hW6]; simp
    have HN6 : Hid (NV W6 a2 m c2 M) := HN5.out.on hb6
    have HB6 : Hid (Below w.heap.size w W6) := HB5.out.trans (hb6.mono HB5.out.size)
    clear hp5 hb5 hb6
    go_wp2_with (go_at_call 26; refine StopQ.out ?_)
    refine ⟨Calls.mono (any_err W6 HP5.out HZ.out) ?_⟩
    rintro e W7 ⟨rfl, hb7⟩
    have HN7 : Hid (NV W7 a2 m c2 M) := HN6.out.on hb7
    have HB7 : Hid (Below w.heap.size w W7) := HB6.out.trans (hb7.mono HB6.out.size)
    clear hb7 hW6 d0 d1
    rcases z with _ | _
    · have HO : Hid (errOf _ M = none) := (by have := HZ.out; revert this; cases errOf _ M <;> simp : errOf _ M = none)
      have HOK : Hid (OkD _ (outB _ M) M) := HBK.out HO.out
      have HE7 : Hid (EG W7) := HE.out.keep HB7.out
      go_wp2_with (go_at_call 20; refine StopQ.out ?_)
      refine ⟨Calls.mono (enc_ok W7 a2 m c2 M HN7.out HR.out.2.1 HE7.out _ HO.out) ?_⟩
      rintro e W8 ⟨a8, c8, rfl, hB8, hb8⟩
      have HN8 : Hid (NV W8 a2 m c2 M) := HN7.out.on hb8.out
      have HB8 : Hid (Below w.heap.size w W8) := HB7.out.trans (hb8.out.mono HB7.out.size)
      go_wp2_with (go_at_call 10; refine StopQ.out ?_)
      refine ⟨Calls.mono (dec_ok W8 a8 _ c8 _ _ M hB8.out HOK.out) ?_⟩
      rintro e W9 ⟨a9, c9, rfl, hN9, hb9⟩
      rw [HM.out] at hN9 ⊢
      have HN9' : Hid (NV W9 a2 m c2 M) := HN8.out.on hb9.out
      have HB9 : Hid (Below w.heap.size w W9) := HB8.out.trans (hb9.out.mono HB8.out.size)
      have HBA9 : Hid _ := hB8.out.on hb9.out
      have HS9 : Hid (W8.heap.size ≤ W9.heap.size) := hb9.out.size
      clear hb8 hb9 hB8
      go_wp2_with (go_at_call 13; refine StopQ.out ?_)
      refine ⟨Calls.mono (Wk.nodes_same W9 a2 a9 m c2 c9 M HN9'.out hN9.out) ?_⟩
      rintro e W10 ⟨rfl, m10, hW10⟩
      have hb10 : Below W9.heap.size W9 W10 := by rw [hW10]; exact Wk.below_drw (Below.refl _ _) m10
      have HB10 : Hid (Below w.heap.size w W10) := HB9.out.trans (hb10.mono HB9.out.size)
      have HBA10 : Hid _ := HBA9.out.on (w' := W10) (by rw [hW10]; exact Wk.below_drw (Below.refl _ _) m10)
      have HN10 : Hid (NV W10 a9 m c9 M) := hN9.out.on hb10
      have HS10 : Hid (W8.heap.size ≤ W10.heap.size) := Nat.le_trans HS9.out hb10.size
      have HE10 : Hid (EG W10) := HE.out.keep HB10.out
      clear hb10 hW10 hN9
      go_wp2_with (go_at_call 20; refine StopQ.out ?_)
      refine ⟨Calls.mono (enc_ok W10 a9 m c9 M HN10.out HR.out.2.1 HE10.out _ HO.out) ?_⟩
      rintro e W11 ⟨a11, c11, rfl, hB11, hb11⟩
      have HB11 : Hid (Below w.heap.size w W11) := HB10.out.trans (hb11.out.mono HB10.out.size)
      have HBA11 : Hid (BA W8.heap.size W11 a8 _ c8 _) := HBA10.out.on (hb11.out.mono HS10.out)
      clear hb11
      go_wp2_with (go_at_call 27; refine StopQ.out ?_)
      refine ⟨Calls.mono (bytes_eq W11 HBA11.out hB11.out HOK.out.2.1) ?_⟩
      rintro e W12 ⟨rfl, m12, hW12⟩
      have HB12 : Hid (Below w.heap.size w W12) := by rw [hW12]; exact Wk.below_drw HB11.out m12
      clear hW12
      go_wp2
      go_ret
      exact ⟨rfl, HB12.out⟩
    · go_wp2
      go_ret
      exact ⟨rfl, HB7.out⟩)
end Go.Proofs.YtoikdpjjcnmgeaaGreatDoor
