import Derived.Test.YtgdemlebohlolaaGreatDoorNg
/-
  DERIVED. The law.
-/
namespace Go.Proofs.YtgdemlebohlolaaGreatDoor.Ck
open Go Go.Proofs Go.RowKit

theorem empty_is {s : ByteArray} (h : s.toList.isEmpty = true) : s = ⟨#[]⟩ := by
  rw [ByteArray.toList_eq, List.isEmpty_iff] at h
  apply ByteArray.ext
  apply Array.ext'
  exact h
theorem dy_none : dyB ⟨#[]⟩ = false := by decide +kernel
theorem tf_gt (i : Nat) (hi : i < 19) (s : ByteArray) : gtB (ndB i) (vv i) (swB i s) s = tfB i s := by
  unfold gtB tfB
  have h6 : s.toList.isEmpty = true → ((s.size : Int) == 6) = false := fun h => by rw [empty_is h]; rfl
  have hd : s.toList.isEmpty = true → dyB s = false := fun h => by rw [empty_is h]; exact dy_none
  rcases i19 hi with rfl | rfl | rfl | rfl | rfl | rfl | rfl | rfl | rfl | rfl | rfl | rfl | rfl | rfl | rfl | rfl | rfl | rfl | rfl
  all_goals simp only [ndB, asB, swB, List.contains_eq_mem, List.mem_cons, Nat.reduceEqDiff, List.not_mem_nil, or_false, or_true, decide_true, decide_false, Bool.false_and, Bool.true_and, Bool.not_false, Bool.and_true]
  all_goals
    cases he : s.toList.isEmpty
    · cases hasB s <;> cases ((trT _ s).toList == s.toList) <;> cases (ckK _ s).isNone <;> cases dyB s <;> cases tiB s <;> cases ((s.size : Int) == 6) <;> rfl
    · have h6' := h6 he
      have hd' := hd he
      cases hasB s <;> cases ((trT _ s).toList == s.toList) <;> cases (ckK _ s).isNone <;> cases tiB s <;> simp [h6', hd']
def OkO (o : Option (List Lk × Int)) : Prop := ∀ x, o = some x → x.2 ≠ 0 ∧ 0 < x.1.length ∧ x.1.length ≤ 11
theorem is_opt (w : World) (r q : Value) (o : Option (List Lk × Int)) (ho : OkO o) (h1 : FltV w r o) (h2 : FltD w q o) : Calls Tryz.prog 4 #[r, q] w fun e w' => e = .returned (.bool true) ∧ Below w.heap.size w w' := by
  cases o with
  | none =>
    obtain rfl := show r = _ from h1
    obtain rfl := show q = _ from h2
    exact Rp.is_nil w
  | some x =>
    obtain ⟨a, b, c⟩ := ho x rfl
    obtain ⟨g, cap, rfl, hl⟩ := h2
    exact is_chain w x.1 x.2 r g cap _ h1 a rfl b c hl
theorem ok_rw (T : Nat → ByteArray) (st : Int) : ∀ f i, OkO (rwG T st f i)
  | 0, i => fun x hx => by
    rw [rwG] at hx
    split at hx
    · cases hx
    · obtain rfl := Option.some.inj hx; exact ⟨show (241 : Int) ≠ 0 by decide, by simp, by simp⟩
  | f + 1, i => fun x hx => by
    rw [rwG] at hx
    split at hx
    · exact ok_rw T st f (i + 1) x hx
    · obtain rfl := Option.some.inj hx; exact ⟨show (241 : Int) ≠ 0 by decide, by simp, by simp⟩
theorem drew_gs {w : World} (h : Gs w) : Gs w.drew := h.on ((Below.refl _ _).drew)
set_option maxRecDepth 100000 in
set_option maxHeartbeats 4000000 in
theorem rows_core (w : World) (C : Array Value) (o : Option (List Lk × Int)) (ho : OkO o) (hsz : C.size = 20) (c5 : ∀ W, Gs W → Calls Tryz.prog 5 #[.agg C] W (CkP W o)) (c6 : ∀ W, Gs W → Calls Tryz.prog 6 #[.agg C] W (CkD W o)) (hG : Gs w) : Calls Tryz.prog 3 #[.agg C] w fun e w' => e = .returned (.bool true) ∧ Below w.heap.size w w' := by
  have hH0 : (w.alloc (.cells C 23)).heap[w.heap.size]? = some (.cells C 23 (0, 0)) := heap_alloc_last w _
  have hi23 : (Tryz.prog.info? 23).map (·.size) = some C.size := by rw [hsz]; exact info23
  have hb0 : Below w.heap.size w (w.alloc (.cells C 23)) := (Below.refl _ _).alloc (Nat.le_refl _) _
  clear hsz
  go_enter Tryz.func3, Tryz.ntmps3
  go_wp2_with (refine Go.Great.wpList_boxTo rfl 23 (.tmp 0) rfl _ rfl w.heap.size rfl C rfl ?_)
  refine wp_region_any (by kernel_rfl) ?_
  change wpAny _ _ _ _ _ _ _ (World.drew _)
  have hH1 : (w.alloc (.cells C 23)).drew.heap[w.heap.size]? = some (.cells C 23 (0, 0)) := hH0
  have HB1 : Hid (Below w.heap.size w (w.alloc (.cells C 23)).drew) := hb0.drew
  have HG1 : Hid (Gs (w.alloc (.cells C 23)).drew) := hG.on HB1.out
  have HL : Hid (w.heap.size < (w.alloc (.cells C 23)).drew.heap.size) := Nat.lt_of_lt_of_le (Nat.lt_succ_self _) (Nat.le_of_eq (Wk.size_alloc w _).symm)
  clear hH0 hb0
  have HG0 : Hid (Gs w) := hG
  clear hG
  generalize (w.alloc (.cells C 23)).drew = w1 at *
  refine wpAny_ready (rs := [0, 2]) (by kernel_rfl) (by simp) ?_
  refine AllReady.cons rfl (fun K hK => ?_) ?_
  · refine wp_load_row 23 (.tmp 1) rfl w.heap.size rfl 23 C (0, 0) _ hH1 Tryz.underlying23 rfl hi23 ?_
    refine hK _ _ ?_
    clear hK K
    refine wpAny_ready (rs := [1, 2]) (by kernel_rfl) (by simp) ?_
    refine AllReady.cons rfl (fun K hK => ?_) ?_
    · go_simp
      go_wp2_with (go_at_call 5; refine Stop.mk ?_)
      refine Stop.out ((c5 _ HG1.out).mono ?_)
      rintro e W1 ⟨r1, rfl, hf1, hb1⟩
      have HF1 : Hid (FltV W1 r1 o) := hf1
      have HB2 : Hid (Below w.heap.size w W1) := HB1.out.trans (hb1.mono HB1.out.size)
      have hH2 : W1.heap[w.heap.size]? = some (.cells C 23 (0, 0)) := (hb1.block _ HL.out).trans hH1
      clear hf1 hb1
      go_wp2
      refine wpAny_ready (rs := [2]) (by kernel_rfl) (by simp) ?_
      refine AllReady.cons rfl (fun K hK => ?_) ?_
      · refine wp_load_row 23 (.tmp 1) rfl w.heap.size rfl 23 C (0, 0) _ hH2 Tryz.underlying23 rfl hi23 ?_
        refine hK _ _ ?_
        clear hK K
        refine wpAny_ready (rs := [3]) (by kernel_rfl) (by simp) ?_
        refine AllReady.cons rfl (fun K hK => ?_) ?_
        · go_simp
          go_wp2_with (go_at_call 6; refine Stop.mk ?_)
          refine Stop.out ((c6 _ (HG0.out.on HB2.out)).mono ?_)
          rintro e W2 ⟨r2, rfl, hf2, hb2⟩
          have HF2 : Hid (FltV W2 r1 o) := HF1.out.on hb2
          have HD2 : Hid (FltD W2 r2 o) := hf2
          have HB3 : Hid (Below w.heap.size w W2) := HB2.out.trans (hb2.mono HB2.out.size)
          clear hf2 hb2
          go_wp2
          refine wpAny_ready (rs := [4]) (by kernel_rfl) (by simp) ?_
          refine AllReady.cons rfl (fun K hK => ?_) ?_
          · go_simp
            go_wp2_with (go_at_call 4; refine Stop.mk ?_)
            refine Stop.out ((is_opt _ r1 r2 o ho HF2.out HD2.out).mono ?_)
            rintro e W3 ⟨rfl, hb3⟩
            have HB4 : Hid (Below w.heap.size w W3) := HB3.out.trans (hb3.mono HB3.out.size)
            clear hb3
            go_wp2
            refine wpAny_ready (rs := [5]) (by kernel_rfl) (by simp) ?_
            refine AllReady.cons rfl (fun K hK => ?_) ?_
            · go_simp
              refine hK _ _ ?_
              clear hK K
              refine wpAny_done (by kernel_rfl) ?_ _
              go_wp2
              go_ret
              exact ⟨rfl, HB4.out⟩
            · exact AllReady.nil
          · exact AllReady.nil
        · exact AllReady.nil
      · exact AllReady.nil
    · refine AllReady.cons rfl (fun K hK => ?_) ?_
      · refine wp_load_row 23 (.tmp 1) rfl w.heap.size rfl 23 C (0, 0) _ hH1 Tryz.underlying23 rfl hi23 ?_
        refine hK _ _ ?_
        clear hK K
        refine wpAny_ready (rs := [1]) (by kernel_rfl) (by simp) ?_
        refine AllReady.cons rfl (fun K hK => ?_) ?_
        · go_simp
          go_wp2_with (go_at_call 5; refine Stop.mk ?_)
          refine Stop.out ((c5 _ HG1.out).mono ?_)
          rintro e W1 ⟨r1, rfl, hf1, hb1⟩
          have HF1 : Hid (FltV W1 r1 o) := hf1
          have HB2 : Hid (Below w.heap.size w W1) := HB1.out.trans (hb1.mono HB1.out.size)
          have hH2 : W1.heap[w.heap.size]? = some (.cells C 23 (0, 0)) := (hb1.block _ HL.out).trans hH1
          clear hf1 hb1
          go_wp2
          refine wpAny_ready (rs := [3]) (by kernel_rfl) (by simp) ?_
          refine AllReady.cons rfl (fun K hK => ?_) ?_
          · go_simp
            go_wp2_with (go_at_call 6; refine Stop.mk ?_)
            refine Stop.out ((c6 _ (HG0.out.on HB2.out)).mono ?_)
            rintro e W2 ⟨r2, rfl, hf2, hb2⟩
            have HF2 : Hid (FltV W2 r1 o) := HF1.out.on hb2
            have HD2 : Hid (FltD W2 r2 o) := hf2
            have HB3 : Hid (Below w.heap.size w W2) := HB2.out.trans (hb2.mono HB2.out.size)
            clear hf2 hb2
            go_wp2
            refine wpAny_ready (rs := [4]) (by kernel_rfl) (by simp) ?_
            refine AllReady.cons rfl (fun K hK => ?_) ?_
            · go_simp
              go_wp2_with (go_at_call 4; refine Stop.mk ?_)
              refine Stop.out ((is_opt _ r1 r2 o ho HF2.out HD2.out).mono ?_)
              rintro e W3 ⟨rfl, hb3⟩
              have HB4 : Hid (Below w.heap.size w W3) := HB3.out.trans (hb3.mono HB3.out.size)
              clear hb3
              go_wp2
              refine wpAny_ready (rs := [5]) (by kernel_rfl) (by simp) ?_
              refine AllReady.cons rfl (fun K hK => ?_) ?_
              · go_simp
                refine hK _ _ ?_
                clear hK K
                refine wpAny_done (by kernel_rfl) ?_ _
                go_wp2
                go_ret
                exact ⟨rfl, HB4.out⟩
              · exact AllReady.nil
            · exact AllReady.nil
          · exact AllReady.nil
        · exact AllReady.nil
      · exact AllReady.nil
  · refine AllReady.cons rfl (fun K hK => ?_) ?_
    · refine wp_load_row 23 (.tmp 1) rfl w.heap.size rfl 23 C (0, 0) _ hH1 Tryz.underlying23 rfl hi23 ?_
      refine hK _ _ ?_
      clear hK K
      refine wpAny_ready (rs := [0]) (by kernel_rfl) (by simp) ?_
      refine AllReady.cons rfl (fun K hK => ?_) ?_
      · refine wp_load_row 23 (.tmp 1) rfl w.heap.size rfl 23 C (0, 0) _ hH1 Tryz.underlying23 rfl hi23 ?_
        refine hK _ _ ?_
        clear hK K
        refine wpAny_ready (rs := [1]) (by kernel_rfl) (by simp) ?_
        refine AllReady.cons rfl (fun K hK => ?_) ?_
        · go_simp
          go_wp2_with (go_at_call 5; refine Stop.mk ?_)
          refine Stop.out ((c5 _ HG1.out).mono ?_)
          rintro e W1 ⟨r1, rfl, hf1, hb1⟩
          have HF1 : Hid (FltV W1 r1 o) := hf1
          have HB2 : Hid (Below w.heap.size w W1) := HB1.out.trans (hb1.mono HB1.out.size)
          have hH2 : W1.heap[w.heap.size]? = some (.cells C 23 (0, 0)) := (hb1.block _ HL.out).trans hH1
          clear hf1 hb1
          go_wp2
          refine wpAny_ready (rs := [3]) (by kernel_rfl) (by simp) ?_
          refine AllReady.cons rfl (fun K hK => ?_) ?_
          · go_simp
            go_wp2_with (go_at_call 6; refine Stop.mk ?_)
            refine Stop.out ((c6 _ (HG0.out.on HB2.out)).mono ?_)
            rintro e W2 ⟨r2, rfl, hf2, hb2⟩
            have HF2 : Hid (FltV W2 r1 o) := HF1.out.on hb2
            have HD2 : Hid (FltD W2 r2 o) := hf2
            have HB3 : Hid (Below w.heap.size w W2) := HB2.out.trans (hb2.mono HB2.out.size)
            clear hf2 hb2
            go_wp2
            refine wpAny_ready (rs := [4]) (by kernel_rfl) (by simp) ?_
            refine AllReady.cons rfl (fun K hK => ?_) ?_
            · go_simp
              go_wp2_with (go_at_call 4; refine Stop.mk ?_)
              refine Stop.out ((is_opt _ r1 r2 o ho HF2.out HD2.out).mono ?_)
              rintro e W3 ⟨rfl, hb3⟩
              have HB4 : Hid (Below w.heap.size w W3) := HB3.out.trans (hb3.mono HB3.out.size)
              clear hb3
              go_wp2
              refine wpAny_ready (rs := [5]) (by kernel_rfl) (by simp) ?_
              refine AllReady.cons rfl (fun K hK => ?_) ?_
              · go_simp
                refine hK _ _ ?_
                clear hK K
                refine wpAny_done (by kernel_rfl) ?_ _
                go_wp2
                go_ret
                exact ⟨rfl, HB4.out⟩
              · exact AllReady.nil
            · exact AllReady.nil
          · exact AllReady.nil
        · exact AllReady.nil
      · exact AllReady.nil
    · exact AllReady.nil
end Go.Proofs.YtgdemlebohlolaaGreatDoor.Ck

/-
  DERIVED. The law, of any step.
-/
namespace Go.Proofs.YtgdemlebohlolaaGreatDoor.Ck
open Go Go.Proofs Go.RowKit

theorem idx19 (s0 s1 s2 s3 s4 s5 s6 s7 s8 s9 s10 s11 s12 s13 s14 s15 s16 s17 s18 : ByteArray) : ∀ (k : Fin 19) (W : World), (Instr.index 36 (.agg #[.string s0, .string s1, .string s2, .string s3, .string s4, .string s5, .string s6, .string s7, .string s8, .string s9, .string s10, .string s11, .string s12, .string s13, .string s14, .string s15, .string s16, .string s17, .string s18]) (.int .i64 (k.val : Int))).run Tryz.prog W = .ok (.string (tx19 [s0, s1, s2, s3, s4, s5, s6, s7, s8, s9, s10, s11, s12, s13, s14, s15, s16, s17, s18] k.val)) W
  | ⟨0, _⟩ => fun _ => by kernel_rfl
  | ⟨1, _⟩ => fun _ => by kernel_rfl
  | ⟨2, _⟩ => fun _ => by kernel_rfl
  | ⟨3, _⟩ => fun _ => by kernel_rfl
  | ⟨4, _⟩ => fun _ => by kernel_rfl
  | ⟨5, _⟩ => fun _ => by kernel_rfl
  | ⟨6, _⟩ => fun _ => by kernel_rfl
  | ⟨7, _⟩ => fun _ => by kernel_rfl
  | ⟨8, _⟩ => fun _ => by kernel_rfl
  | ⟨9, _⟩ => fun _ => by kernel_rfl
  | ⟨10, _⟩ => fun _ => by kernel_rfl
  | ⟨11, _⟩ => fun _ => by kernel_rfl
  | ⟨12, _⟩ => fun _ => by kernel_rfl
  | ⟨13, _⟩ => fun _ => by kernel_rfl
  | ⟨14, _⟩ => fun _ => by kernel_rfl
  | ⟨15, _⟩ => fun _ => by kernel_rfl
  | ⟨16, _⟩ => fun _ => by kernel_rfl
  | ⟨17, _⟩ => fun _ => by kernel_rfl
  | ⟨18, _⟩ => fun _ => by kernel_rfl
  | ⟨n + 19, h⟩ => absurd h (by omega)
theorem at19 (s0 s1 s2 s3 s4 s5 s6 s7 s8 s9 s10 s11 s12 s13 s14 s15 s16 s17 s18 : ByteArray) : ∀ k, k < 19 → (#[.string s0, .string s1, .string s2, .string s3, .string s4, .string s5, .string s6, .string s7, .string s8, .string s9, .string s10, .string s11, .string s12, .string s13, .string s14, .string s15, .string s16, .string s17, .string s18] : Array Value)[k]? = some (.string (tx19 [s0, s1, s2, s3, s4, s5, s6, s7, s8, s9, s10, s11, s12, s13, s14, s15, s16, s17, s18] k)) := fun k hk => by
  rcases i19 hk with rfl | rfl | rfl | rfl | rfl | rfl | rfl | rfl | rfl | rfl | rfl | rfl | rfl | rfl | rfl | rfl | rfl | rfl | rfl <;> rfl
theorem one19 (s0 s1 s2 s3 s4 s5 s6 s7 s8 s9 s10 s11 s12 s13 s14 s15 s16 s17 s18 : ByteArray) : (#[.string s0, .string s1, .string s2, .string s3, .string s4, .string s5, .string s6, .string s7, .string s8, .string s9, .string s10, .string s11, .string s12, .string s13, .string s14, .string s15, .string s16, .string s17, .string s18] : Array Value).all (·.oneCell') = true := by kernel_rfl
theorem rows_any (w : World) (s0 s1 s2 s3 s4 s5 s6 s7 s8 s9 s10 s11 s12 s13 s14 s15 s16 s17 s18 : ByteArray) (st : Int) (hz : ∀ k, k < 19 → (tx19 [s0, s1, s2, s3, s4, s5, s6, s7, s8, s9, s10, s11, s12, s13, s14, s15, s16, s17, s18] k).size ≤ 140737488351232) (hG : Gs w) : Calls Tryz.prog 3 #[.agg #[.string s0, .string s1, .string s2, .string s3, .string s4, .string s5, .string s6, .string s7, .string s8, .string s9, .string s10, .string s11, .string s12, .string s13, .string s14, .string s15, .string s16, .string s17, .string s18, .int .i64 st]] w fun e w' => e = .returned (.bool true) ∧ Below w.heap.size w w' :=
  rows_core w #[.string s0, .string s1, .string s2, .string s3, .string s4, .string s5, .string s6, .string s7, .string s8, .string s9, .string s10, .string s11, .string s12, .string s13, .string s14, .string s15, .string s16, .string s17, .string s18, .int .i64 st] (rwG (tx19 [s0, s1, s2, s3, s4, s5, s6, s7, s8, s9, s10, s11, s12, s13, s14, s15, s16, s17, s18]) st 19 0) (ok_rw _ _ _ _) rfl
    (fun W h => row_core W #[.string s0, .string s1, .string s2, .string s3, .string s4, .string s5, .string s6, .string s7, .string s8, .string s9, .string s10, .string s11, .string s12, .string s13, .string s14, .string s15, .string s16, .string s17, .string s18, .int .i64 st] #[.string s0, .string s1, .string s2, .string s3, .string s4, .string s5, .string s6, .string s7, .string s8, .string s9, .string s10, .string s11, .string s12, .string s13, .string s14, .string s15, .string s16, .string s17, .string s18] (tx19 [s0, s1, s2, s3, s4, s5, s6, s7, s8, s9, s10, s11, s12, s13, s14, s15, s16, s17, s18]) st rfl rfl (fun W => texts_9 W s0 s1 s2 s3 s4 s5 s6 s7 s8 s9 s10 s11 s12 s13 s14 s15 s16 s17 s18 st) (fun k hk W => idx19 s0 s1 s2 s3 s4 s5 s6 s7 s8 s9 s10 s11 s12 s13 s14 s15 s16 s17 s18 ⟨k, hk⟩ W) hz h)
    (fun W h => rrow_core W #[.string s0, .string s1, .string s2, .string s3, .string s4, .string s5, .string s6, .string s7, .string s8, .string s9, .string s10, .string s11, .string s12, .string s13, .string s14, .string s15, .string s16, .string s17, .string s18, .int .i64 st] #[.string s0, .string s1, .string s2, .string s3, .string s4, .string s5, .string s6, .string s7, .string s8, .string s9, .string s10, .string s11, .string s12, .string s13, .string s14, .string s15, .string s16, .string s17, .string s18] (tx19 [s0, s1, s2, s3, s4, s5, s6, s7, s8, s9, s10, s11, s12, s13, s14, s15, s16, s17, s18]) st rfl rfl (fun W => texts_13 W s0 s1 s2 s3 s4 s5 s6 s7 s8 s9 s10 s11 s12 s13 s14 s15 s16 s17 s18 st) rfl (one19 s0 s1 s2 s3 s4 s5 s6 s7 s8 s9 s10 s11 s12 s13 s14 s15 s16 s17 s18) (at19 s0 s1 s2 s3 s4 s5 s6 s7 s8 s9 s10 s11 s12 s13 s14 s15 s16 s17 s18) hz (fun i hi => tf_gt i hi _) h) hG
end Go.Proofs.YtgdemlebohlolaaGreatDoor.Ck
