import Derived.Test.YtfjcmniicbppdaaN
/-
  DERIVED. The document's Take.
-/
namespace Go.Proofs.Ytfjcmniicbppdaa
open Go Go.Proofs Go.RowKit Go.Deep

/-- What a state may be. -/
def OkS (s : RSt) : Prop := (s.1 = 1 ∧ s.2 = []) ∨ s.1 = 2 ∨ s.1 = 3
/-- How much it holds. -/
def wl (s : RSt) : Nat := s.2.length + if s.1 = 3 then 1 else 0

theorem rlk_ok (c : Nat) (T : List Nat) : OkS (rlk c T) ∧ wl (rlk c T) ≤ T.length + 1 := by
  unfold rlk
  split
  · exact ⟨.inr (.inl rfl), by simp [wl]⟩
  · split
    · exact ⟨.inr (.inr rfl), by simp [wl]⟩
    · exact ⟨.inr (.inl rfl), by simp [wl]⟩
theorem rsp_ok (c : Nat) (s : RSt) (h : OkS s) : OkS (rsp c s) ∧ wl (rsp c s) ≤ wl s + 1 := by
  obtain ⟨s, T⟩ := s
  rcases h with ⟨h1, h2⟩ | h | h
  · simp only at h1 h2
    subst h1 h2
    unfold rsp
    simp only [if_pos]
    split
    · exact ⟨.inr (.inl rfl), by simp [wl]⟩
    · exact ⟨.inl ⟨rfl, rfl⟩, by simp [wl]⟩
  · simp only at h
    subst h
    have := rlk_ok c T
    exact ⟨this.1, this.2⟩
  · simp only at h
    subst h
    unfold rsp
    by_cases h13 : c = 13
    · subst h13
      exact ⟨.inl ⟨rfl, rfl⟩, by simp [wl]⟩
    · have := rlk_ok c (T ++ [28])
      have e : (if (3, T).1 = 1 then (if c = 11 then (2, []) else (1, [])) else if (3, T).1 = 2 then rlk c (3, T).2 else if c = 13 then (1, []) else rlk c ((3, T).2 ++ [28]) : RSt) = rlk c (T ++ [28]) := by simp [h13]
      rw [e]
      refine ⟨this.1, Nat.le_trans this.2 ?_⟩
      simp [wl]

theorem byte_any {w : World} {q : Nat} {v : Value} {s : Nat} {T : List Nat} (h : RF w q v s T) (ho : OkS (s, T)) (hT : T.length ≤ 16777216) (c : Nat) (hc : c < 256) :
    Calls Try.prog 25 #[.pointer (some ⟨q, 0, none⟩), .int .u8 (c : Int)] w (PB w q v (s, T) c) := by
  rcases ho with ⟨h1, h2⟩ | h1 | h1
  · simp only at h1 h2
    subst h1 h2
    by_cases h11 : c = 11
    · subst h11
      exact byte2b h (.inl rfl)
    · exact byte1n h c h11
  · simp only at h1
    subst h1
    by_cases h11 : c = 11
    · subst h11
      exact byte2b h (.inr rfl)
    · by_cases h28 : c = 28
      · subst h28
        exact byte2e h
      · exact byte2k h hT c hc h11 h28
  · simp only at h1
    subst h1
    by_cases h13 : c = 13
    · subst h13
      exact byte3d h hT
    · by_cases h11 : c = 11
      · subst h11
        exact byte3b h hT
      · by_cases h28 : c = 28
        · subst h28
          exact byte3e h hT
        · exact byte3k h hT c hc h13 h11 h28

/-- What stands in memory while the document's Take runs. -/
structure RI (w0 : World) (q : Nat) (v0 : Value) (W : World) (v told : Value) (s : RSt) (fs : Fs) : Prop where
  fr : RF W q v s.1 s.2
  ch : Ch (FS q v0) w0 W
  ub : v.ownBlock = v0.ownBlock ∨ ∀ g, v.ownBlock = some g → w0.heap.size ≤ g
  tl : W.ownsRow w0.heap.size 37 2 told fs.length (fsC fs)

section
variable {w0 : World} {q : Nat} {v0 : Value} {W W' : World} {v v' told told' : Value} {s s' : RSt} {fs : Fs}
theorem RI.far (h : RI w0 q v0 W v told s fs) {g : Nat} (hg : told.ownBlock = some g) : ¬ FS q v g ∧ g < W.heap.size := by
  refine ⟨?_, (h.tl.lt g hg).2⟩
  rcases h.tl.2 with ⟨rfl, _⟩ | ⟨g', cap, cur, rfl, _, hh, _⟩
  · cases hg
  · have e1 : g' = g := Option.some.inj hg
    subst e1
    rintro (rfl | hu)
    · obtain ⟨c, hc, _⟩ := h.fr.row
      rw [hh] at hc
      cases hc
    · rcases h.fr.own.2 with ⟨rfl, _⟩ | ⟨g2, cap2, cur2, rfl, _, hh2, _⟩
      · cases hu
      · have e2 : g2 = g' := Option.some.inj hu
        subst e2
        rw [hh] at hh2
        cases hh2
theorem RI.step (h : RI w0 q v0 W v told s fs) (hf : RF W' q v' s'.1 s'.2) (hc : Ch (FS q v) W W') (hu : v'.ownBlock = v.ownBlock ∨ ∀ g, v'.ownBlock = some g → W.heap.size ≤ g) : RI w0 q v0 W' v' told s' fs := by
  refine ⟨hf, h.ch.trans hc ?_, ?_, owns_of h.tl fun g hg => hc.block g (h.far hg).2 (h.far hg).1⟩
  · rintro j hj (rfl | hj')
    · exact .inl rfl
    · rcases h.ub with e | e
      · exact .inr (by rw [← e]; exact hj')
      · have := e j hj'; omega
  · rcases hu with e | e
    · rw [e]; exact h.ub
    · exact .inr fun g hg => Nat.le_trans h.ch.size (e g hg)
theorem RI.on (h : RI w0 q v0 W v told s fs) (hb : Below W.heap.size W W') : RI w0 q v0 W' v told s fs :=
  h.step (h.fr.of fun j hj _ => hb.block j hj) (Ch.of_below hb) (.inl rfl)
theorem RI.app (h : RI w0 q v0 W v told s fs) {o : Obj} {f : List Nat × Bool} (hg : (W.alloc o).grownBy W' told.ownBlock) (ht : W'.ownsRow w0.heap.size 37 2 told' (fs.length + 1) (fsC fs ++ [.string (arr f.1), .bool f.2])) : RI w0 q v0 W' v told' s (fs ++ [f]) := by
  have hb : ∀ j, j < W.heap.size → told.ownBlock ≠ some j → W'.heap[j]? = W.heap[j]? := fun j hj hne => (hg.block j (by simp; omega) (fun e => hne e.symm)).trans (blk_alloc_lt _ _ _ (by simpa using hj))
  refine ⟨h.fr.of fun j hj hs => hb j hj (fun e => (h.far e).1 hs), ⟨?_, ?_, ?_, ?_, ?_⟩, h.ub, ?_⟩
  · exact hg.os.trans h.ch.os
  · exact hg.tape.trans h.ch.tape
  · exact hg.output.trans h.ch.output
  · have := hg.size; have := h.ch.size; simp at *; omega
  · intro j hj hs
    refine (hb j (Nat.lt_of_lt_of_le hj h.ch.size) fun e => ?_).trans (h.ch.block j hj hs)
    have := (h.tl.lt j e).1
    omega
  · rw [fsC_app, List.length_append]
    exact ht
end

theorem rtk_at {bs : List Nat} {k : Nat} (h : k < bs.length) (s : RSt) (fs : Fs) : rtk (bs.drop k) s fs = rtk (bs.drop (k + 1)) (rsp (bs.getD k 0) s) (fs ++ ot (bs.getD k 0) (ab s)) := by rw [drop_cons h]; rfl
theorem rtk_end {bs : List Nat} {k : Nat} (h : bs.length ≤ k) (s : RSt) (fs : Fs) : rtk (bs.drop k) s fs = (s, fs) := by rw [List.drop_eq_nil_of_le h]; rfl

/-- What the document's Take tells. -/
def RQ (w0 : World) (q : Nat) (v0 : Value) (R : RSt × Fs) (b : Nat) : Ending → World → Prop := fun e W =>
  ∃ (told v : Value), e = .returned told ∧ RI w0 q v0 W v told R.1 R.2 ∧ OkS R.1 ∧ wl R.1 ≤ b ∧ R.2.length ≤ b

theorem ot_cases (c : Nat) (s : FSt) : ot c s = [] ∨ ∃ f, ot c s = [f] := by
  unfold ot
  split
  · exact .inr ⟨_, rfl⟩
  · exact .inl rfl

set_option maxRecDepth 100000 in
set_option maxHeartbeats 4000000 in
theorem takeR_any {w0 : World} {q : Nat} {v0 bv : Value} {s : RSt} {bs : List Nat} (hF : RF w0 q v0 s.1 s.2) (ho : OkS s) (hV : V w0 bv bs) (hA : Apart w0 q v0 bv) (hn : wl s + bs.length ≤ 16777216) :
    Calls Try.prog 16 #[.pointer (some ⟨q, 0, none⟩), bv] w0 (RQ w0 q v0 (rtk bs s []) (wl s + bs.length)) := by
  have HI : Hid (RI w0 q v0 w0 v0 (.slice none 0 0) s []) := ⟨hF, Ch.refl _ _, .inl rfl, World.ownsRow_nil _ _ _ _⟩
  have HV : Hid (V w0 bv bs) := hV
  have HA : Hid (Apart w0 q v0 bv) := hA
  obtain ⟨ao, cap, rfl, _, hbytes⟩ := hV.form
  have HBY : Hid (∀ x ∈ bs, x < 256) := hbytes
  clear hV hA hF hbytes
  obtain ⟨R, hR⟩ : ∃ R, rtk bs s [] = R := ⟨_, rfl⟩
  obtain ⟨b0, hb0⟩ : ∃ b0, wl s = b0 := ⟨_, rfl⟩
  rw [hR, hb0]
  rw [hb0] at hn
  obtain ⟨i0, hi, hz0, hz1, hz2⟩ := info_parts info37
  go_enter Try.func16, Try.ntmps16
  go_wp2
  go_loopw [5, 6] (fun l i wr => ∃ (k : Nat) (v : Value) (s' : RSt) (fs : Fs), k ≤ bs.length ∧ i = .int .i64 k ∧ Hid (RI w0 q v0 wr v l s' fs) ∧ OkS s' ∧ wl s' ≤ b0 + k ∧ fs.length ≤ k ∧ Hid (rtk (bs.drop k) s' fs = R)) (fun _ i _ => bs.length - (intOf i).toNat)
  case atStart => exact ⟨0, v0, s, [], Nat.zero_le _, rfl, HI.out, ho, by omega, Nat.le_refl _, hR⟩
  case round =>
    obtain ⟨k, v, s', fs, hk, rfl, HI2, ho2, hw2, hf2, HR⟩ := hrel
    clear HI ho hR hb0
    obtain ⟨c0, _, _, _, cf⟩ := HI2.out.fr.cells
    by_cases hkn : k < bs.length
    · obtain ⟨ao', cap', he, hform, _⟩ := (HV.out.ch HI2.out.ch HA.out).form
      cases he
      obtain ⟨b, off, rfl, hat⟩ := hform (by omega)
      obtain ⟨x, hx⟩ : ∃ x, bs.getD k 0 = x := ⟨_, rfl⟩
      have hcell := hat.1 k hkn
      rw [hx] at hcell
      have hx8 : x < 256 := by rw [← hx, List.getD_eq_getElem?_getD, List.getElem?_eq_getElem hkn]; exact HBY.out _ (List.getElem_mem hkn)
      have kb := byte_any HI2.out.fr ho2 (by have : s'.2.length ≤ wl s' := Nat.le_add_right _ _; omega) x hx8
      have hok := rsp_ok x s' ho2
      clear hform hat
      go_wp2_with (go_at_call 25; refine Stop.mk ?_)
      refine Stop.out (kb.mono ?_)
      rintro e W2 ⟨rfl, v2, hf3, hc3, hu3⟩
      have HI3 : Hid (RI w0 q v0 W2 v2 u5 (rsp x s') fs) := HI2.out.step hf3 hc3 hu3
      clear hf3 hc3 hu3 kb hcell c0 cf
      rcases ot_cases x (ab s') with h0 | ⟨f, h0⟩
      · rw [h0]
        unfold fOf
        go_wp2
        go_roundw
        case rel =>
          refine ⟨k + 1, v2, rsp x s', fs, by omega, by go_num, HI3.out.on ((Below.refl _ _).alloc (Nat.le_refl _) _), hok.1, by omega, by omega, ?_⟩
          show rtk (bs.drop (k + 1)) (rsp x s') fs = R
          rw [← HR.out, rtk_at hkn, hx, h0, List.append_nil]
        case measure => simp [intOf]; omega
      · rw [h0]
        unfold fOf
        have HI4 : Hid (RI w0 q v0 (W2.alloc (.cells #[.string (arr f.1), .bool f.2] 37)) v2 u5 (rsp x s') fs) := HI3.out.on ((Below.refl _ _).alloc (Nat.le_refl _) _)
        have HS : Hid (w0.heap.size ≤ W2.heap.size) := HI3.out.ch.size
        go_wp2_with (first | (at_builtin; refine wpList_append_lies _ rfl _ _ 26 rfl w0.heap.size 37 i0 _ 2 24 Try.underlying26 hi hz0 hz1 hz2 rfl (by decide) u5 fs.length (fsC fs) rfl (World.ownsRow.alloc HI4.out.tl _) ⟨W2.heap.size + 1, 0, none⟩ 1 1 [.string (arr f.1), .bool f.2] rfl rfl (by have := cell_two_new (W2.alloc (.cells #[.string (arr f.1), .bool f.2] 37)) (.string (arr f.1)) (.bool f.2) 37; simpa using this) (by intro u hu; simp at hu; rcases hu with rfl | rfl <;> rfl) (by decide) (by unfold maxLen; omega) (by omega) (by have := HS.out; simp; omega) (W2.heap.size + 2) (by simp) ?_) | fail)
        intro g cp W4 hown4 hgrow4 hat4 hlt4
        have HI5 : Hid (RI w0 q v0 W4 v2 (.slice (some ⟨g, 0, none⟩) (fs.length + 1) cp) (rsp x s') (fs ++ [f])) := HI4.out.app hgrow4 hown4
        clear hown4 hgrow4 hat4 hlt4
        go_wp2
        go_roundw
        case rel =>
          refine ⟨k + 1, v2, rsp x s', fs ++ [f], by omega, by go_num, HI5.out, hok.1, by omega, by simp; omega, ?_⟩
          show rtk (bs.drop (k + 1)) (rsp x s') (fs ++ [f]) = R
          rw [← HR.out, rtk_at hkn, hx, h0]
        case measure => simp [intOf]; omega
    · have hk' : k = bs.length := by omega
      subst hk'
      go_wp2
      go_ret
      have e : R = (s', fs) := by rw [← HR.out, rtk_end (Nat.le_refl _)]
      subst e
      exact ⟨_, v, rfl, HI2.out, ho2, hw2, by simp only; omega⟩
end Go.Proofs.Ytfjcmniicbppdaa
