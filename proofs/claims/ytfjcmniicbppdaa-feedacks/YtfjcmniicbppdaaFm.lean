import Derived.Test.YtfjcmniicbppdaaFl
/-
  DERIVED. The document's Ack, and the law.
-/
namespace Go.Proofs.Ytfjcmniicbppdaa
open Go Go.Proofs Go.RowKit

/-- A result's place in memory, as it was made. -/
structure Res (B : Nat) (W : World) : Prop where
  c0 : W.cell? ⟨B, 0, none⟩ = some (.slice none 0 0)
  c1 : W.cell? ⟨B, 1, none⟩ = some (.int .i64 0)
  fr : ∀ j, W.frozen? ⟨B, j, none⟩ = false
  cn : ∀ j, W.cell? ⟨B, j + 2, none⟩ = none
theorem Res.on {B : Nat} {W W' : World} (h : Res B W) (hb : Below W.heap.size W W') : Res B W' :=
  ⟨(hb.cell (cell_lt h.c0)).trans h.c0, (hb.cell (cell_lt h.c1)).trans h.c1, fun j => (hb.frozen (p := ⟨B, j, none⟩) (show B < W.heap.size from cell_lt h.c0)).trans (h.fr j), fun j => (hb.cell (p := ⟨B, j + 2, none⟩) (show B < W.heap.size from cell_lt h.c0)).trans (h.cn j)⟩
theorem Res.ne {B g : Nat} {W : World} {s : ByteArray} (h : Res B W) (hg : W.cell? ⟨g, 0, none⟩ = some (.string s)) : B ≠ g := by
  intro e; subst e; rw [h.c0] at hg; cases hg
theorem V.set {B : Nat} {W : World} {v : Value} {bs : List Nat} (h : V W v bs) (hr : Res B W) (x y : Value) : V ((W.setCell ⟨B, 0, none⟩ x).setCell ⟨B, 1, none⟩ y) v bs := by
  rcases h with h | ⟨b, off, cap, rfl, hp, hc, ha, hb⟩
  · exact .inl h
  · have hne : B ≠ b := by
      intro e; subst e
      have h0 := ha 0 hp
      match off, h0 with
      | 0, h0 => rw [hr.c0] at h0; cases h0
      | 1, h0 => rw [hr.c1] at h0; cases h0
      | n + 2, h0 => rw [show n + 2 + 0 = n + 2 from rfl, hr.cn n] at h0; cases h0
    exact .inr ⟨b, off, cap, rfl, hp, hc, fun k hk => (cell_set_off hne).trans ((cell_set_off hne).trans (ha k hk)), hb⟩

set_option maxRecDepth 100000 in
set_option maxHeartbeats 4000000 in
theorem ackR_any (w : World) (c d x : ByteArray) (o : Option (Int × Int)) (bs : List Nat) (h : AckIs c d x o bs) (hc : c.size ≤ maxLen) (hx : x.size ≤ maxLen) :
    Calls Try.prog 21 #[.string c, .string d, .string x] w fun e w' => ∃ v u, e = .returned (.tuple #[v, u]) ∧ V w' v bs ∧ RErr w' u o ∧ Below w.heap.size w w' := by
  have hx9 := hx
  unfold maxLen at hx9
  obtain ⟨W1, hW1⟩ : ∃ W1, w.alloc (.cells #[.slice none 0 0, .int .i64 0] 51) = W1 := ⟨_, rfl⟩
  have hb1 : Below w.heap.size w W1 := hW1 ▸ (Below.refl _ _).alloc (Nat.le_refl _) _
  have hr1 : Res w.heap.size W1 := ⟨by rw [← hW1]; simp, by rw [← hW1]; simp, fun i => by rw [← hW1]; simp, fun i => by rw [← hW1]; simp⟩
  have HB1 : Hid (Below w.heap.size w W1) := hb1
  have HR1 : Hid (Res w.heap.size W1) := hr1
  clear hb1 hr1
  cases h with
  | ctl h1 =>
    go_enter Try.func21, Try.ntmps21
    go_wp2_with (go_at_call 30; refine StopF.out ?_)
    clear hW1
    refine StopF.mk ((ctlR_any _ _ hc).mono ?_)
    rintro e W1' ⟨b, rfl, hb, rfl⟩
    obtain rfl : b = false := by
      cases b with
      | false => rfl
      | true => exact absurd (hb.1 rfl) h1
    clear hb
    go_wp2_with (go_at_call 31; refine StopF.out ?_)
    refine StopF.mk ((no_any _ _ _).mono ?_)
    rintro e W2 ⟨v, rfl, hp, hbe2⟩
    obtain ⟨g, k, rfl, g0, g1⟩ := hp
    have hr2 := HR1.out.on hbe2
    obtain ⟨x0, x1, xf, xn⟩ := hr2
    have hne := Res.ne ⟨x0, x1, xf, xn⟩ g0
    clear xn
    have HG0 : Hid (W2.cell? ⟨g, 0, none⟩ = _) := g0
    have HG1 : Hid (W2.cell? ⟨g, 1, none⟩ = _) := g1
    clear g0 g1
    go_wp2
    refine bodyPost_ret (v := .tuple #[.slice none 0 0, .agg #[.slice (some ⟨g, 0, none⟩) 1 k, .int .i64 222]]) (by simp [results, Try.results21, go_sem, x0, x1]) rfl ?_
    exact ⟨_, _, rfl, v_nil _, ⟨g, k, rfl, (cell_set_off hne).trans ((cell_set_off hne).trans HG0.out), (cell_set_off hne).trans ((cell_set_off hne).trans HG1.out)⟩, ((HB1.out.trans (hbe2.mono HB1.out.size)).setCell (p := ⟨w.heap.size, 0, none⟩) (Nat.le_refl _) _).setCell (p := ⟨w.heap.size, 1, none⟩) (Nat.le_refl _) _⟩
  | code h1 h2 =>
    have n1 : (d.toList == [65, 65]) = false := by
      simp only [beq_eq_false_iff_ne]; exact fun hh => h2 (.inl (tl_ext ((ByteArray.toList_eq d).symm.trans hh)))
    have n2 : (d.toList == [65, 69]) = false := by
      simp only [beq_eq_false_iff_ne]; exact fun hh => h2 (.inr (.inl (tl_ext ((ByteArray.toList_eq d).symm.trans hh))))
    have n3 : (d.toList == [65, 82]) = false := by
      simp only [beq_eq_false_iff_ne]; exact fun hh => h2 (.inr (.inr (tl_ext ((ByteArray.toList_eq d).symm.trans hh))))
    go_enter Try.func21, Try.ntmps21
    go_wp2_with (go_at_call 30; refine StopF.out ?_)
    clear hW1
    refine StopF.mk ((ctlR_any _ _ hc).mono ?_)
    rintro e W1' ⟨b, rfl, hb, rfl⟩
    obtain rfl : b = true := hb.2 h1
    clear hb
    go_wp2_with (go_at_call 31; refine StopF.out ?_)
    refine StopF.mk ((no_any _ _ _).mono ?_)
    rintro e W2 ⟨v, rfl, hp, hbe2⟩
    obtain ⟨g, k, rfl, g0, g1⟩ := hp
    have hr2 := HR1.out.on hbe2
    obtain ⟨x0, x1, xf, xn⟩ := hr2
    have hne := Res.ne ⟨x0, x1, xf, xn⟩ g0
    clear xn
    have HG0 : Hid (W2.cell? ⟨g, 0, none⟩ = _) := g0
    have HG1 : Hid (W2.cell? ⟨g, 1, none⟩ = _) := g1
    clear g0 g1
    go_wp2
    refine bodyPost_ret (v := .tuple #[.slice none 0 0, .agg #[.slice (some ⟨g, 0, none⟩) 1 k, .int .i64 229]]) (by simp [results, Try.results21, go_sem, x0, x1]) rfl ?_
    exact ⟨_, _, rfl, v_nil _, ⟨g, k, rfl, (cell_set_off hne).trans ((cell_set_off hne).trans HG0.out), (cell_set_off hne).trans ((cell_set_off hne).trans HG1.out)⟩, ((HB1.out.trans (hbe2.mono HB1.out.size)).setCell (p := ⟨w.heap.size, 0, none⟩) (Nat.le_refl _) _).setCell (p := ⟨w.heap.size, 1, none⟩) (Nat.le_refl _) _⟩
  | long h1 h2 h3 =>
    have h3' : decide ((200 : Int) < (x.size : Int)) = true := by simp; omega
    rcases h2 with rfl | rfl | rfl
    all_goals
      go_enter Try.func21, Try.ntmps21
      go_wp2_with (go_at_call 30; refine StopF.out ?_)
      clear hW1
      refine StopF.mk ((ctlR_any _ _ hc).mono ?_)
      rintro e W1' ⟨b, rfl, hb, rfl⟩
      obtain rfl : b = true := hb.2 h1
      clear hb
      go_wp2_with (go_at_call 31; refine StopF.out ?_)
      refine StopF.mk ((no_any _ _ _).mono ?_)
      rintro e W2 ⟨v, rfl, hp, hbe2⟩
      obtain ⟨g, k, rfl, g0, g1⟩ := hp
      have hr2 := HR1.out.on hbe2
      obtain ⟨x0, x1, xf, xn⟩ := hr2
      have hne := Res.ne ⟨x0, x1, xf, xn⟩ g0
      clear xn
      have HG0 : Hid (W2.cell? ⟨g, 0, none⟩ = _) := g0
      have HG1 : Hid (W2.cell? ⟨g, 1, none⟩ = _) := g1
      clear g0 g1
      go_wp2
      refine bodyPost_ret (v := .tuple #[.slice none 0 0, .agg #[.slice (some ⟨g, 0, none⟩) 1 k, .int .i64 230]]) (by simp [results, Try.results21, go_sem, x0, x1]) rfl ?_
      exact ⟨_, _, rfl, v_nil _, ⟨g, k, rfl, (cell_set_off hne).trans ((cell_set_off hne).trans HG0.out), (cell_set_off hne).trans ((cell_set_off hne).trans HG1.out)⟩, ((HB1.out.trans (hbe2.mono HB1.out.size)).setCell (p := ⟨w.heap.size, 0, none⟩) (Nat.le_refl _) _).setCell (p := ⟨w.heap.size, 1, none⟩) (Nat.le_refl _) _⟩
  | text h1 h2 h3 h4 =>
    have h3' : decide ((200 : Int) < (x.size : Int)) = false := by simp; omega
    rcases h2 with rfl | rfl | rfl
    all_goals
      go_enter Try.func21, Try.ntmps21
      go_wp2_with (go_at_call 30; refine StopF.out ?_)
      clear hW1
      refine StopF.mk ((ctlR_any _ _ hc).mono ?_)
      rintro e W1' ⟨b, rfl, hb, rfl⟩
      obtain rfl : b = true := hb.2 h1
      clear hb
      go_wp2
      go_loopw [8] (fun i wr => ∃ (k : Nat), k ≤ x.size ∧ i = .int .i64 k ∧ Hid (∀ j (h : j < x.size), j < k → 32 ≤ (x[j]'h).toNat ∧ (x[j]'h).toNat ≤ 126) ∧ wr = W1') (fun i _ => x.size - (intOf i).toNat)
      case atStart => exact ⟨0, Nat.zero_le _, rfl, fun j h h0 => absurd h0 (Nat.not_lt_zero _), rfl⟩
      case round =>
        obtain ⟨k, hk, rfl, HP, rfl⟩ := hrel
        by_cases hkn : k < x.size
        · obtain ⟨y, hy⟩ : ∃ y, x[k].toNat = y := ⟨_, rfl⟩
          have HY : Hid (x[k].toNat = y) := hy
          by_cases h5 : y < 32
          · have h5' : decide ((y : Int) < 32) = true := by simp; omega
            go_wp2_with (go_at_call 31; refine StopF.out ?_)
            refine StopF.mk ((no_any _ _ _).mono ?_)
            rintro e W2 ⟨v, rfl, hp, hbe2⟩
            obtain ⟨g, kk, rfl, g0, g1⟩ := hp
            have hr2 := HR1.out.on hbe2
            obtain ⟨x0, x1, xf, xn⟩ := hr2
            have hne := Res.ne ⟨x0, x1, xf, xn⟩ g0
            clear xn
            have HG0 : Hid (W2.cell? ⟨g, 0, none⟩ = _) := g0
            have HG1 : Hid (W2.cell? ⟨g, 1, none⟩ = _) := g1
            clear g0 g1
            go_wp2
            refine bodyPost_ret (v := .tuple #[.slice none 0 0, .agg #[.slice (some ⟨g, 0, none⟩) 1 kk, .int .i64 224]]) (by simp [results, Try.results21, go_sem, x0, x1]) rfl ?_
            exact ⟨_, _, rfl, v_nil _, ⟨g, kk, rfl, (cell_set_off hne).trans ((cell_set_off hne).trans HG0.out), (cell_set_off hne).trans ((cell_set_off hne).trans HG1.out)⟩, ((HB1.out.trans (hbe2.mono HB1.out.size)).setCell (p := ⟨w.heap.size, 0, none⟩) (Nat.le_refl _) _).setCell (p := ⟨w.heap.size, 1, none⟩) (Nat.le_refl _) _⟩
          · have h5' : decide ((y : Int) < 32) = false := by simp; omega
            by_cases h6 : 126 < y
            · have h6' : decide ((126 : Int) < (y : Int)) = true := by simp; omega
              go_wp2_with (go_at_call 31; refine StopF.out ?_)
              refine StopF.mk ((no_any _ _ _).mono ?_)
              rintro e W2 ⟨v, rfl, hp, hbe2⟩
              obtain ⟨g, kk, rfl, g0, g1⟩ := hp
              have hr2 := HR1.out.on hbe2
              obtain ⟨x0, x1, xf, xn⟩ := hr2
              have hne := Res.ne ⟨x0, x1, xf, xn⟩ g0
              clear xn
              have HG0 : Hid (W2.cell? ⟨g, 0, none⟩ = _) := g0
              have HG1 : Hid (W2.cell? ⟨g, 1, none⟩ = _) := g1
              clear g0 g1
              go_wp2
              refine bodyPost_ret (v := .tuple #[.slice none 0 0, .agg #[.slice (some ⟨g, 0, none⟩) 1 kk, .int .i64 224]]) (by simp [results, Try.results21, go_sem, x0, x1]) rfl ?_
              exact ⟨_, _, rfl, v_nil _, ⟨g, kk, rfl, (cell_set_off hne).trans ((cell_set_off hne).trans HG0.out), (cell_set_off hne).trans ((cell_set_off hne).trans HG1.out)⟩, ((HB1.out.trans (hbe2.mono HB1.out.size)).setCell (p := ⟨w.heap.size, 0, none⟩) (Nat.le_refl _) _).setCell (p := ⟨w.heap.size, 1, none⟩) (Nat.le_refl _) _⟩
            · have h6' : decide ((126 : Int) < (y : Int)) = false := by simp; omega
              go_wp2
              go_roundw
              case rel =>
                refine ⟨k + 1, by omega, by go_num, fun j h h0 => ?_, trivial⟩
                by_cases hj : j = k
                · subst hj; have := HY.out; omega
                · exact HP.out j h (by omega)
              case measure => simp [intOf]; omega
        · exact absurd (fun j hj => HP.out j hj (by omega)) h4
  | good t h1 h2 h3 h4 h5 =>
    have h3' : decide ((200 : Int) < (x.size : Int)) = false := by simp; omega
    have HT : Hid (tl t = ackT (tl c) (tl d) (tl x)) := h5
    clear h5
    rcases h2 with rfl | rfl | rfl
    all_goals
      go_enter Try.func21, Try.ntmps21
      go_wp2_with (go_at_call 30; refine StopF.out ?_)
      clear hW1
      refine StopF.mk ((ctlR_any _ _ hc).mono ?_)
      rintro e W1' ⟨b, rfl, hb, rfl⟩
      obtain rfl : b = true := hb.2 h1
      clear hb
      go_wp2
      go_loopw [8] (fun i wr => ∃ (k : Nat), k ≤ x.size ∧ i = .int .i64 k ∧ Hid (∀ j (h : j < x.size), j < k → 32 ≤ (x[j]'h).toNat ∧ (x[j]'h).toNat ≤ 126) ∧ wr = W1') (fun i _ => x.size - (intOf i).toNat)
      case atStart => exact ⟨0, Nat.zero_le _, rfl, fun j h h0 => absurd h0 (Nat.not_lt_zero _), rfl⟩
      case round =>
        obtain ⟨k, hk, rfl, HP, rfl⟩ := hrel
        by_cases hkn : k < x.size
        · obtain ⟨y, hy⟩ : ∃ y, x[k].toNat = y := ⟨_, rfl⟩
          have HY : Hid (x[k].toNat = y) := hy
          by_cases h5 : y < 32
          · have h5' : decide ((y : Int) < 32) = true := by simp; omega
            exact absurd (h4 k hkn) (by have := HY.out; omega)
          · have h5' : decide ((y : Int) < 32) = false := by simp; omega
            by_cases h6 : 126 < y
            · have h6' : decide ((126 : Int) < (y : Int)) = true := by simp; omega
              exact absurd (h4 k hkn) (by have := HY.out; omega)
            · have h6' : decide ((126 : Int) < (y : Int)) = false := by simp; omega
              go_wp2
              go_roundw
              case rel =>
                refine ⟨k + 1, by omega, by go_num, fun j h h0 => ?_, trivial⟩
                by_cases hj : j = k
                · subst hj; have := HY.out; omega
                · exact HP.out j h (by omega)
              case measure => simp [intOf]; omega
        · go_wp2_with (go_at_call 32; refine StopF.out ?_)
          refine StopF.mk ((escR_any _ c (by omega)).mono ?_)
          rintro e W3 ⟨oc, rfl, hoc, rfl⟩
          have hcs : oc.size ≤ 60 := by
            have h9 := escL_len (tl c)
            rw [← hoc, tl_len, tl_len] at h9
            omega
          go_wp2_with (go_at_call 32; refine StopF.out ?_)
          refine StopF.mk ((escR_any _ x (by omega)).mono ?_)
          rintro e W4 ⟨ox, rfl, hox, rfl⟩
          have hxs : ox.size ≤ 600 := by
            have h9 := escL_len (tl x)
            rw [← hox, tl_len, tl_len] at h9
            omega
          have a1 : ¬ (9223372036854775807 < 27 + oc.size) := by omega
          have a2 : ¬ (9223372036854775807 < 27 + oc.size + 13) := by omega
          have a3 : ¬ (9223372036854775807 < 27 + oc.size + 13 + 2) := by omega
          have a4 : ¬ (9223372036854775807 < 27 + oc.size + 13 + 2 + 1) := by omega
          have a5 : ¬ (9223372036854775807 < 27 + oc.size + 13 + 2 + 1 + oc.size) := by omega
          have a6 : ¬ (9223372036854775807 < 27 + oc.size + 13 + 2 + 1 + oc.size + 1) := by omega
          have a7 : ¬ (9223372036854775807 < 27 + oc.size + 13 + 2 + 1 + oc.size + 1 + ox.size) := by omega
          have a8 : ¬ (9223372036854775807 < 27 + oc.size + 13 + 2 + 1 + oc.size + 1 + ox.size + 1) := by omega
          go_wp2_with (go_at_call 15; refine StopF.out ?_)
          refine StopF.mk ((frame_ackR _ c _ x t _ HT.out (by simp only [tl_app, hoc, hox]; rfl) (by omega) (by omega) (by decide)).mono ?_)
          rintro e W5 ⟨v, rfl, hv, hbe5⟩
          go_wp2_with (go_at_call 33; refine StopF.out ?_)
          refine StopF.mk ((none_any _).mono ?_)
          rintro e W6 ⟨rfl, hbe6⟩
          have hr2 := (HR1.out.on hbe5).on hbe6
          have hv2 := hv.next hbe6
          have HV : Hid (V W6 v (fb t)) := hv2
          have HR2 : Hid (Res w.heap.size W6) := hr2
          obtain ⟨x0, x1, xf, xn⟩ := hr2
          clear xn
          obtain ⟨ao, cap, rfl, _, _⟩ := hv2.form
          clear hv hv2
          have q5 := hbe5.size; have q1 := HB1.out.size
          go_wp2
          refine bodyPost_ret (v := .tuple #[.slice ao (fb t).length cap, .agg #[.slice none 0 0, .int .i64 0]]) (by simp [results, Try.results21, go_sem, x0, x1]) rfl ?_
          exact ⟨_, _, rfl, HV.out.set HR2.out _ _, rfl, (((HB1.out.trans (hbe5.mono q1)).trans (hbe6.mono (by omega))).setCell (p := ⟨w.heap.size, 0, none⟩) (Nat.le_refl _) _).setCell (p := ⟨w.heap.size, 1, none⟩) (Nat.le_refl _) _⟩

set_option maxRecDepth 100000 in
set_option maxHeartbeats 1000000 in
theorem acks_law (w : World) (c d x : ByteArray) (hc : c.size ≤ maxLen) (hx : x.size ≤ maxLen) :
    Calls Try.prog 6 #[.string c, .string d, .string x] w fun e w' => e = .returned (.bool true) ∧ Below w.heap.size w w' := by
  obtain ⟨o, bs, h⟩ := ack_is c d x
  have h0 : ∀ a c, o = some (a, c) → (c != 0) = true := by
    cases h <;> (intro a c hh; cases hh; try rfl)
  have hl : bs.length ≤ 140737488351232 := by
    cases h with
    | good t h1 h2 h3 h4 h5 =>
      have hl := ackT_len (tl c) (tl d) (tl x) (by rw [tl_len]; exact h1.1) (by rw [tl_len]; exact h3) (by rw [tl_len]; exact code_size h2)
      rw [← h5, tl_len] at hl
      rw [fb_length]
      omega
    | _ => simp
  go_enter Try.func6, Try.ntmps6
  go_wp2_with (go_at_call 20; refine StopF.out ?_)
  refine StopF.mk ((ackP_any _ _ _ _ _ _ h hx).mono ?_)
  rintro e W1 ⟨v1, u1, rfl, hv1, hu1, hb1⟩
  go_wp2_with (go_at_call 21; refine StopF.out ?_)
  refine StopF.mk ((ackR_any _ _ _ _ _ _ h hc hx).mono ?_)
  rintro e W2 ⟨v2, u2, rfl, hv2, hu2, hb2⟩
  have hv1' := hv1.next hb2
  have hu1' := hu1.next hb2
  obtain ⟨ga, gn, gp, ke, hge⟩ : ∃ a n p z, u2 = .agg #[.slice a n p, .int .i64 z] := by
    cases o with
    | none => exact ⟨_, _, _, _, hu2⟩
    | some z => obtain ⟨g, k, e, _⟩ := hu2; exact ⟨_, _, _, _, e⟩
  obtain ⟨W3, hW3⟩ : ∃ W3, W2.alloc (.cells #[.slice ga gn gp, .int .i64 ke] 51) = W3 := ⟨_, rfl⟩
  have hb3 : Below W2.heap.size W2 W3 := hW3 ▸ (Below.refl _ _).alloc (Nat.le_refl _) _
  have z0 : W3.cell? ⟨W2.heap.size, 0, none⟩ = some (.slice ga gn gp) := by rw [← hW3]; simp
  have z1 : W3.cell? ⟨W2.heap.size, 1, none⟩ = some (.int .i64 ke) := by rw [← hW3]; simp
  have hi := is_yes (hu1'.next hb3) (hu2.next hb3) h0
  have hq1 := hv1'.next hb3
  have hq2 := hv2.next hb3
  rw [hge] at hi
  subst hge
  clear hv1 hv2 hu1 hu1' hv1'
  go_wp2_with (go_at_call 22; refine StopF.out ?_)
  refine StopF.mk (hi.mono ?_)
  rintro e W4 ⟨rfl, hb4⟩
  go_wp2_with (go_at_call 14; refine StopF.out ?_)
  refine StopF.mk ((bytes_any (hq1.next hb4) (hq2.next hb4) hl).mono ?_)
  rintro e W5 ⟨rfl, m, rfl⟩
  go_wp2
  go_ret
  have q1 := hb1.size; have q2 := hb2.size; have q3 := hb3.size
  exact ⟨by simp, below_drw (((hb1.trans (hb2.mono q1)).trans (hb3.mono (by omega))).trans (hb4.mono (by omega))) m⟩
end Go.Proofs.Ytfjcmniicbppdaa
