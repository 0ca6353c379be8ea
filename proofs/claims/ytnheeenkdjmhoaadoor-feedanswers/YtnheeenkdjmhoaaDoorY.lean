import Derived.Test.YtnheeenkdjmhoaaDoorX
/-
  DERIVED. The law of answers.
-/
namespace Go.Proofs.YtnheeenkdjmhoaaDoor
open Go Go.Proofs Go.RowKit

set_option maxRecDepth 100000 in
set_option maxHeartbeats 2000000 in
theorem prtL_any (w : World) (s : ByteArray) (hs : s.size ≤ maxLen) : Calls Tryd.prog 6 #[.string s] w fun e w' => ∃ b : Bool, e = .returned (.bool b) ∧ (b = true ↔ okB s) ∧ w = w' := by
  unfold maxLen at hs
  go_enter Tryd.func6, Tryd.ntmps6
  go_wp2
  go_loopw [3] (fun i wr => ∃ (k : Nat), k ≤ s.size ∧ i = .int .i64 k ∧ Hid (∀ j (h : j < s.size), j < k → 32 ≤ (s[j]'h).toNat ∧ (s[j]'h).toNat ≤ 126) ∧ wr = w) (fun i _ => s.size - (intOf i).toNat)
  case atStart => exact ⟨0, Nat.zero_le _, rfl, fun j h h0 => absurd h0 (Nat.not_lt_zero _), rfl⟩
  case round =>
    obtain ⟨k, hk, rfl, HP, rfl⟩ := hrel
    by_cases hkn : k < s.size
    · obtain ⟨y, hy⟩ : ∃ y, s[k].toNat = y := ⟨_, rfl⟩
      have HY : Hid (s[k].toNat = y) := hy
      by_cases h1 : y < 32
      · have h1' : decide ((y : Int) < 32) = true := by simp; omega
        go_wp2
        go_ret
        refine ⟨false, rfl, ⟨fun h => by simp at h, fun h => ?_⟩, rfl⟩
        have := h k hkn; have := HY.out; omega
      · have h1' : decide ((y : Int) < 32) = false := by simp; omega
        by_cases h2 : 126 < y
        · have h2' : decide ((126 : Int) < (y : Int)) = true := by simp; omega
          go_wp2
          go_ret
          refine ⟨false, rfl, ⟨fun h => by simp at h, fun h => ?_⟩, rfl⟩
          have := h k hkn; have := HY.out; omega
        · have h2' : decide ((126 : Int) < (y : Int)) = false := by simp; omega
          go_wp2
          go_roundw
          case rel =>
            refine ⟨k + 1, by omega, by go_num, fun j h h0 => ?_, trivial⟩
            by_cases hj : j = k
            · subst hj; have := HY.out; omega
            · exact HP.out j h (by omega)
          case measure => simp [intOf]; omega
    · go_wp2
      go_ret
      exact ⟨true, rfl, ⟨fun _ j hj => HP.out j hj (by omega), fun _ => rfl⟩, rfl⟩

theorem cl_ack {c d x t : ByteArray} (h1 : c.size ≤ 20 ∧ okB c) (h2 : CodeOK d) (h3 : x.size ≤ 200) (h4 : okB x) (ht : tl t = ackT (tl c) (tl d) (tl x)) : cl t = true := by
  have hl := ackT_len (tl c) (tl d) (tl x) (by rw [tl_len]; exact h1.1) (by rw [tl_len]; exact h3) (by rw [tl_len]; exact code_size h2)
  rw [← ht, tl_len] at hl
  unfold cl clB
  rw [Bool.and_eq_true]
  refine ⟨?_, by simp; omega⟩
  rw [List.all_eq_true]
  intro n hn
  unfold sn at hn
  obtain ⟨b, hb, rfl⟩ := List.mem_map.1 hn
  have hb' : b ∈ tl t := hb
  have hE : ∀ s : ByteArray, okB s → ∀ b ∈ escL (tl s), b ≠ 11 ∧ b ≠ 28 := by
    intro s hs b hb
    obtain ⟨c, hm, hc⟩ := List.mem_flatMap.1 hb
    obtain ⟨i, hi, rfl⟩ := List.getElem_of_mem hm
    rw [tl_len] at hi
    rw [tl_get s i hi] at hc
    have h32 := (hs i hi).1
    unfold esc1 at hc
    repeat' split at hc
    all_goals simp only [List.mem_cons, List.not_mem_nil, or_false] at hc
    all_goals first
      | (rcases hc with rfl | rfl | rfl <;> decide)
      | (subst hc; constructor <;> (intro he; rw [he] at h32; revert h32; decide))
  have key : ∀ b ∈ ackT (tl c) (tl d) (tl x), b ≠ 11 ∧ b ≠ 28 := by
    clear hn hb hb' b
    intro b hb'
    unfold ackT at hb'
    simp only [List.mem_append] at hb'
    rcases hb' with (((((((hb | hb) | hb) | hb) | hb) | hb) | hb) | hb) | hb
    · revert b; decide
    · exact hE c h1.2 b hb
    · revert b; decide
    · rcases h2 with rfl | rfl | rfl
      · have : b ∈ ([65, 65] : List UInt8) := hb
        revert b; decide
      · have : b ∈ ([65, 69] : List UInt8) := hb
        revert b; decide
      · have : b ∈ ([65, 82] : List UInt8) := hb
        revert b; decide
    · revert b; decide
    · exact hE c h1.2 b hb
    · revert b; decide
    · exact hE x h4 b hb
    · revert b; decide
  simp only [Bool.and_eq_true, bne_iff_ne]
  rw [ht] at hb'
  exact ⟨fun h => (key b hb').1 (UInt8.toNat_inj.1 h), fun h => (key b hb').2 (UInt8.toNat_inj.1 h)⟩

/-- A frame taken by a new framer. -/
theorem take1 {w0 : World} {q : Nat} {bv : Value} {t : ByteArray} (hF : FR w0 q (.slice none 0 0) 1 [] false) (hV : V w0 bv (fb t)) (hA : Apart w0 q (.slice none 0 0) bv) (hc : cl t = true) :
    Calls Tryd.prog 8 #[.pointer (some ⟨q, 0, none⟩), bv] w0 fun e W => ∃ g cap u, e = .returned (.slice (some ⟨g, 0, none⟩) 1 cap) ∧ W.cell? ⟨g, 0, none⟩ = some (.string t) ∧ W.cell? ⟨g, 1, none⟩ = some (.bool false) ∧ FR W q u 1 [] false ∧ Ch (fun j => j = q) w0 W := by
  have hl := (cl_iff hc).2
  refine (take_any (s := 1) hF (.inl ⟨rfl, rfl, rfl⟩) hV hA (by rw [fb_length]; omega)).mono ?_
  rintro e W ⟨told, u, s, tx, lg, fs, rfl, hT, _, hR⟩
  rw [tk_frame hc] at hR
  simp only [List.nil_append, Prod.mk.injEq] at hR
  obtain ⟨⟨rfl, rfl, rfl⟩, rfl⟩ := hR
  have ho := hT.tl
  obtain ⟨g, cap, rfl⟩ := owns_pos ho (by simp)
  refine ⟨g, cap, u, rfl, ?_, ?_, hT.fr, hT.ch.mono fun j _ h => ?_⟩
  · have := ho.cellAt 0 (by simp)
    rw [this]; simp [fsC, arr_sn]
  · have := ho.cellAt 1 (by simp)
    rw [this]; simp [fsC]
  · rcases h with h | h
    · exact h
    · cases h
theorem V.lt {w : World} {v : Value} {bs : List Nat} (h : V w v bs) {b off n cap : Nat} (hv : v = .slice (some ⟨b, off, none⟩) n cap) (hn : 0 < n) : b < w.heap.size := by
  rcases h with ⟨ao, c, h1, _⟩ | ⟨b', off', c', h1, hp, _, ha, _⟩
  · rw [hv] at h1; simp at h1; omega
  · rw [hv] at h1
    simp at h1
    have := World.block_lt_of_cell? w _ (ha 0 hp)
    rw [h1.1.1]
    exact this

/-- The text that was laid there, its fields at hand. -/
theorem SegsAt.cells {W : World} {B : Nat} {v : Value} {L : Segs} (h : SegsAt W B v L) (hL : 0 < L.length) : ∃ g cap, v = .slice (some ⟨g, 0, none⟩) L.length cap ∧ ∀ i, i < L.length → 0 < (L.getD i []).length → ∃ gi ci, W.cell? ⟨g, i, none⟩ = some (.slice (some ⟨gi, 0, none⟩) (L.getD i []).length ci) ∧ ∀ j, j < (L.getD i []).length → W.cell? ⟨gi, j, none⟩ = some (.string (bs1 ((L.getD i []).getD j []))) := by
  obtain ⟨vals, h1, h2, h3⟩ := h
  obtain ⟨g, cap, rfl⟩ := owns_pos h1 hL
  refine ⟨g, cap, rfl, fun i hi hp => ?_⟩
  obtain ⟨b, hb⟩ := h3 i hi
  obtain ⟨gi, ci, hv⟩ := owns_pos hb hp
  refine ⟨gi, ci, ?_, fun j hj => ?_⟩
  · have := h1.cellAt i (by omega)
    rw [this, ← hv, List.getD_eq_getElem?_getD, List.getElem?_eq_getElem (by omega)]; rfl
  · rw [hv] at hb
    have := hb.cellAt j (by omega)
    rw [this]
    obtain ⟨P, hP⟩ : ∃ P, L.getD i [] = P := ⟨_, rfl⟩
    rw [hP] at hj ⊢
    rw [strs, List.getElem?_map, List.getElem?_eq_getElem hj, List.getD_eq_getElem?_getD, List.getElem?_eq_getElem hj]; rfl

theorem carry {W W' : World} {a : Addr} {v : Value} (h : W.cell? a = some v) (hb : Below W.heap.size W W') : W'.cell? a = some v := (hb.cell (cell_lt h)).trans h

set_option maxRecDepth 100000 in
set_option maxHeartbeats 4000000 in
theorem answers_law (w : World) (c d x : ByteArray) (hc : c.size ≤ maxLen) (hx : x.size ≤ maxLen) :
    Calls Tryd.prog 3 #[.string c, .string d, .string x] w fun e w' => e = .returned (.bool true) ∧ Below w.heap.size w w' := by
  obtain ⟨t0, ht0⟩ : ∃ t0 : ByteArray, tl t0 = ackT (tl { data := #[55] }) (tl { data := #[65, 65] }) (tl { data := #[] }) := ⟨⟨_⟩, tl_mk _⟩
  have hA0 : AckIs { data := #[55] } { data := #[65, 65] } { data := #[] } none (fb t0) := by
    refine .good t0 ⟨by decide, ?_⟩ (.inl rfl) (by decide) ?_ ht0
    · intro k hk
      have hk0 : k = 0 := by have : k < 1 := hk; omega
      subst hk0
      show 32 ≤ (55 : UInt8).toNat ∧ (55 : UInt8).toNat ≤ 126
      decide
    · intro k hk; exact absurd hk (by show ¬ k < 0; omega)
  have hz0 : (fb t0).length = 50 := by
    rw [fb_length, ← tl_len, ht0]
    rfl
  have k0 := ackP_any w _ _ _ _ _ hA0 (by decide)
  obtain ⟨o, bs, hA⟩ := ack_is c d x
  have hc' := hc
  have hx' := hx
  unfold maxLen at hc' hx'
  go_enter Tryd.func3, Tryd.ntmps3
  go_wp2_with (go_at_call 5; refine StopF.out ?_)
  refine StopF.mk (k0.mono ?_)
  rintro e W1 ⟨v0, u0, rfl, hv0, hu0, hb1⟩
  obtain rfl : u0 = .nilIface := hu0
  obtain ⟨a0, c0, rfl, _, _⟩ := hv0.form
  clear k0 hA0 ht0 hv0
  have k1 := ackP_any W1 _ _ _ _ _ hA hx
  rw [hz0]
  go_wp2_with (go_at_call 5; refine StopF.out ?_)
  refine StopF.mk (k1.mono ?_)
  rintro e W2 ⟨v, u, rfl, hv, hu, hb2⟩
  clear k1
  have HB2 : Hid (Below w.heap.size w W2) := hb1.trans (hb2.mono hb1.size)
  clear hb1 hb2
  have p1 := prtL_any W2 c hc
  have p2 := prtL_any W2 x hx
  cases hA with
  | ctl h1 =>
    obtain ⟨q, rfl, _⟩ := hu
    by_cases hs20 : 20 < c.size
    · have c20 : decide ((20 : Int) < (c.size : Int)) = true := by simp; omega
      go_wp2
      go_ret
      exact ⟨rfl, HB2.out⟩
    · have c20 : decide ((20 : Int) < (c.size : Int)) = false := by simp; omega
      by_cases hs200 : 200 < x.size
      · have x200 : decide ((200 : Int) < (x.size : Int)) = true := by simp; omega
        go_wp2
        go_ret
        exact ⟨rfl, HB2.out⟩
      · have x200 : decide ((200 : Int) < (x.size : Int)) = false := by simp; omega
        by_cases h2 : CodeOK d
        · have hnb : ¬ okB c := fun h => h1 ⟨by omega, h⟩
          rcases h2 with rfl | rfl | rfl
          all_goals
            go_wp2_with (go_at_call 6; refine StopF.out ?_)
            refine StopF.mk (p1.mono ?_)
            rintro e w' ⟨b, rfl, hb, rfl⟩
            obtain rfl : b = false := by
              cases b with
              | false => rfl
              | true => exact absurd (hb.1 rfl) hnb
            clear hb
            go_wp2
            go_ret
            exact ⟨rfl, HB2.out⟩
        · have n1 : (d.toList == [65, 65]) = false := by
            simp only [beq_eq_false_iff_ne]; exact fun hh => h2 (.inl (tl_ext ((ByteArray.toList_eq d).symm.trans hh)))
          have n2 : (d.toList == [65, 69]) = false := by
            simp only [beq_eq_false_iff_ne]; exact fun hh => h2 (.inr (.inl (tl_ext ((ByteArray.toList_eq d).symm.trans hh))))
          have n3 : (d.toList == [65, 82]) = false := by
            simp only [beq_eq_false_iff_ne]; exact fun hh => h2 (.inr (.inr (tl_ext ((ByteArray.toList_eq d).symm.trans hh))))
          go_wp2
          go_ret
          exact ⟨rfl, HB2.out⟩
  | code h1 h2 =>
    obtain ⟨q, rfl, _⟩ := hu
    have h20 := h1.1
    have c20 : decide ((20 : Int) < (c.size : Int)) = false := by simp; omega
    have n1 : (d.toList == [65, 65]) = false := by
      simp only [beq_eq_false_iff_ne]; exact fun hh => h2 (.inl (tl_ext ((ByteArray.toList_eq d).symm.trans hh)))
    have n2 : (d.toList == [65, 69]) = false := by
      simp only [beq_eq_false_iff_ne]; exact fun hh => h2 (.inr (.inl (tl_ext ((ByteArray.toList_eq d).symm.trans hh))))
    have n3 : (d.toList == [65, 82]) = false := by
      simp only [beq_eq_false_iff_ne]; exact fun hh => h2 (.inr (.inr (tl_ext ((ByteArray.toList_eq d).symm.trans hh))))
    by_cases hs200 : 200 < x.size
    · have x200 : decide ((200 : Int) < (x.size : Int)) = true := by simp; omega
      go_wp2
      go_ret
      exact ⟨rfl, HB2.out⟩
    · have x200 : decide ((200 : Int) < (x.size : Int)) = false := by simp; omega
      go_wp2
      go_ret
      exact ⟨rfl, HB2.out⟩
  | long h1 h2 h3 =>
    obtain ⟨q, rfl, _⟩ := hu
    have h20 := h1.1
    have c20 : decide ((20 : Int) < (c.size : Int)) = false := by simp; omega
    have x200 : decide ((200 : Int) < (x.size : Int)) = true := by simp; omega
    go_wp2
    go_ret
    exact ⟨rfl, HB2.out⟩
  | text h1 h2 h3 h4 =>
    obtain ⟨q, rfl, _⟩ := hu
    have h20 := h1.1
    have c20 : decide ((20 : Int) < (c.size : Int)) = false := by simp; omega
    have x200 : decide ((200 : Int) < (x.size : Int)) = false := by simp; omega
    rcases h2 with rfl | rfl | rfl
    all_goals
      go_wp2_with (go_at_call 6; refine StopF.out ?_)
      refine StopF.mk (p1.mono ?_)
      rintro e w' ⟨b, rfl, hb, rfl⟩
      obtain rfl : b = true := hb.2 h1.2
      clear hb
      go_wp2_with (go_at_call 6; refine StopF.out ?_)
      refine StopF.mk (p2.mono ?_)
      rintro e w' ⟨b, rfl, hb, rfl⟩
      obtain rfl : b = false := by
        cases b with
        | false => rfl
        | true => exact absurd (hb.1 rfl) h4
      clear hb
      go_wp2
      go_ret
      exact ⟨rfl, HB2.out⟩
  | good t h1 h2 h3 h4 h5 =>
    obtain rfl : u = .nilIface := hu
    have hcl := cl_ack h1 h2 h3 h4 h5
    have hsp := ack_split c d x t h1 h2 h4 h5
    go_wp2_with (go_at_call 7; refine StopF.out ?_)
    refine StopF.mk ((newFramer_any _).mono ?_)
    rintro e W3 ⟨rfl, hF3, hb3, hs3⟩
    have hV3 := hv.next hb3
    have hA3 : Apart W3 W2.heap.size (.slice none 0 0) v := by
      intro b off n cap hvv hn
      have := hv.lt hvv hn
      refine ⟨by omega, ?_⟩
      rintro (h | h)
      · omega
      · cases h
    have kt := take1 hF3 hV3 hA3 hcl
    have HB3 : Hid (Below w.heap.size w W3) := HB2.out.trans (hb3.mono HB2.out.size)
    have hq : w.heap.size ≤ W2.heap.size := HB2.out.size
    obtain ⟨va, vc, rfl, _, _⟩ := hV3.form
    clear hV3 hA3 hF3 hb3 p1 p2 HB2
    go_wp2_with (go_at_call 8; refine StopF.out ?_)
    refine StopF.mk (kt.mono ?_)
    rintro e W4 ⟨g, cap, uu, rfl, hg0, hg1, hF4, hch⟩
    clear kt
    have HB4 : Hid (Below w.heap.size w W4) := HB3.out.trans ⟨hch.os, hch.tape, hch.output, hch.size, fun j hj => hch.block j (by have := HB3.out.size; omega) (by omega)⟩
    have kh := held_any hF4
    have ehd : hd 1 ([] : List Nat).length = 0 := rfl
    rw [ehd] at kh
    go_wp2_with (first | (go_at_call 9; refine kh.mono ?_; rintro e w' ⟨rfl, rfl⟩) | (go_at_call 10; refine StopF.out ?_))
    have htz : t.size ≤ 1000 := by
      have hl := ackT_len (tl c) (tl d) (tl x) (by rw [tl_len]; exact h1.1) (by rw [tl_len]; exact h3) (by rw [tl_len]; exact code_size h2)
      rw [← h5, tl_len] at hl; exact hl
    have hcz : (escL (tl c)).length ≤ 60 := by have := escL_len (tl c); rw [tl_len] at this; omega
    have hxz : (escL (tl x)).length ≤ 600 := by have := escL_len (tl x); rw [tl_len] at this; omega
    clear kh hF4 hch hg0 hg1
    refine StopF.mk ((Split_any W4 t (by omega) none _ hsp).mono ?_)
    rintro e W5 ⟨sv, su, rfl, hS, hsu, hb5⟩
    obtain rfl : su = .nilIface := hsu
    obtain ⟨g2, cap2, rfl, hcs⟩ := hS.cells (by simp [ackL])
    obtain ⟨g3, c3, s0, f0⟩ := hcs 0 (by simp [ackL]) (by simp [ackL])
    obtain ⟨g4, c4, s1, f1⟩ := hcs 1 (by simp [ackL]) (by simp [ackL])
    have q1 : W5.cell? ⟨g3, 1, none⟩ = some (.string (bs1 [124])) := f0 1 (by simp [ackL])
    have q2 : W5.cell? ⟨g3, 2, none⟩ = some (.string (bs1 [94, 126, 92, 38])) := f0 2 (by simp [ackL])
    have q9 : W5.cell? ⟨g3, 9, none⟩ = some (.string { data := #[65, 67, 75] }) := f0 9 (by simp [ackL])
    have q10 : W5.cell? ⟨g3, 10, none⟩ = some (.string (bs1 (escL (tl c)))) := f0 10 (by simp [ackL])
    have r0 : W5.cell? ⟨g4, 0, none⟩ = some (.string { data := #[77, 83, 65] }) := f1 0 (by simp [ackL])
    have r1 : W5.cell? ⟨g4, 1, none⟩ = some (.string d) := by have := f1 1 (by simp [ackL]); rw [this]; show some (Value.string (bs1 (tl d))) = _; rw [bs1_tl]
    have r2 : W5.cell? ⟨g4, 2, none⟩ = some (.string (bs1 (escL (tl c)))) := f1 2 (by simp [ackL])
    have r3 : W5.cell? ⟨g4, 3, none⟩ = some (.string (bs1 (escL (tl x)))) := f1 3 (by simp [ackL])
    have s0' : W5.cell? ⟨g2, 0, none⟩ = some (.slice (some ⟨g3, 0, none⟩) 13 c3) := s0
    have s1' : W5.cell? ⟨g2, 1, none⟩ = some (.slice (some ⟨g4, 0, none⟩) 4 c4) := s1
    obtain ⟨m1, hm1⟩ : ∃ m, bs1 [124] = m := ⟨_, rfl⟩
    obtain ⟨m2, hm2⟩ : ∃ m, bs1 [94, 126, 92, 38] = m := ⟨_, rfl⟩
    obtain ⟨ec, hec⟩ : ∃ m, bs1 (escL (tl c)) = m := ⟨_, rfl⟩
    obtain ⟨ex, hex⟩ : ∃ m, bs1 (escL (tl x)) = m := ⟨_, rfl⟩
    obtain ⟨om, hom⟩ : ∃ m, ourM = m := ⟨_, rfl⟩
    have hmm : m1 ++ m2 = om := by rw [← hm1, ← hm2, ← hom]; apply tl_ext; rw [tl_app, tl_bs1, tl_bs1]; rfl
    have z1 : m1.size = 1 := by rw [← hm1]; rfl
    have z2 : m2.size = 4 := by rw [← hm2]; rfl
    have hec1 : tl ec = escL (tl c) := by rw [← hec, tl_bs1]
    have hex1 : tl ex = escL (tl x) := by rw [← hex, tl_bs1]
    have kc := fun W => Plain_esc W ec (tl c) hec1 (by rw [← tl_len, hec1]; omega)
    have kx := fun W => Plain_esc W ex (tl x) hex1 (by rw [← tl_len, hex1]; omega)
    rw [bs1_tl, hom] at kc kx
    rw [hm1] at q1
    rw [hm2] at q2
    rw [hec] at q10 r2
    rw [hex] at r3
    have HB5 : Hid (Below w.heap.size w W5) := HB4.out.trans (hb5.mono HB4.out.size)
    have hsum : ¬ (9223372036854775807 < m1.size + m2.size) := by omega
    have hLl : (ackL (escL (tl c)) (tl d) (escL (tl x))).length = 2 := rfl
    rw [hLl]
    clear hcs s0 s1 f0 f1 hm1 hm2 hec hex hom hec1 hex1 hS hb5 HB4 HB3 hsp hcl hv hLl
    go_wp2
    go_quiet (fail)
    have HB6 : Hid (Below w.heap.size w (W5.drewN nq)) := below_drw HB5.out nq
    have x1 : (W5.drewN nq).cell? ⟨g2, 0, none⟩ = some (.slice (some ⟨g3, 0, none⟩) 13 c3) := s0'
    have x2 : (W5.drewN nq).cell? ⟨g2, 1, none⟩ = some (.slice (some ⟨g4, 0, none⟩) 4 c4) := s1'
    have x3 : (W5.drewN nq).cell? ⟨g3, 9, none⟩ = some (.string { data := #[65, 67, 75] }) := q9
    have x4 : (W5.drewN nq).cell? ⟨g3, 10, none⟩ = some (.string ec) := q10
    have x5 : (W5.drewN nq).cell? ⟨g4, 0, none⟩ = some (.string { data := #[77, 83, 65] }) := r0
    have x6 : (W5.drewN nq).cell? ⟨g4, 1, none⟩ = some (.string d) := r1
    have x7 : (W5.drewN nq).cell? ⟨g4, 2, none⟩ = some (.string ec) := r2
    have x8 : (W5.drewN nq).cell? ⟨g4, 3, none⟩ = some (.string ex) := r3
    clear s0' s1' q1 q2 q9 q10 r0 r1 r2 r3 HB5 hmm z1 z2 hsum
    generalize W5.drewN nq = W6 at x1 x2 x3 x4 x5 x6 x7 x8 HB6 ⊢
    go_wp2_with (go_at_call 11; refine StopF.out ?_)
    refine StopF.mk ((kc _).mono ?_)
    rintro e W7 ⟨rfl, hb7⟩
    have y1 := carry x1 hb7; have y2 := carry x2 hb7; have y3 := carry x3 hb7; have y5 := carry x5 hb7; have y6 := carry x6 hb7; have y7 := carry x7 hb7; have y8 := carry x8 hb7
    have HB7 : Hid (Below w.heap.size w W7) := HB6.out.trans (hb7.mono HB6.out.size)
    clear x1 x2 x3 x4 x5 x6 x7 x8 HB6 hb7
    go_wp2_with (go_at_call 11; refine StopF.out ?_)
    refine StopF.mk ((kc _).mono ?_)
    rintro e W8 ⟨rfl, hb8⟩
    have x1 := carry y1 hb8; have x2 := carry y2 hb8; have x3 := carry y3 hb8; have x5 := carry y5 hb8; have x6 := carry y6 hb8; have x8 := carry y8 hb8
    have HB8 : Hid (Below w.heap.size w W8) := HB7.out.trans (hb8.mono HB7.out.size)
    clear y1 y2 y3 y5 y6 y7 y8 HB7 hb8
    go_wp2_with (go_at_call 11; refine StopF.out ?_)
    refine StopF.mk ((kx _).mono ?_)
    rintro e W9 ⟨rfl, hb9⟩
    have y1 := carry x1 hb9; have y2 := carry x2 hb9; have y3 := carry x3 hb9; have y5 := carry x5 hb9; have y6 := carry x6 hb9
    have HB9 : Hid (Below w.heap.size w W9) := HB8.out.trans (hb9.mono HB8.out.size)
    clear x1 x2 x3 x5 x6 x8 HB8 hb9 kc kx
    go_wp2
    go_ret
    exact ⟨rfl, HB9.out⟩
end Go.Proofs.YtnheeenkdjmhoaaDoor
