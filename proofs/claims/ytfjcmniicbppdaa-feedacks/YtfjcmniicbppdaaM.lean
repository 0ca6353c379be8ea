import Derived.Test.YtfjcmniicbppdaaL
/-
  DERIVED. The document's framer takes a byte behind a 1C.
-/
namespace Go.Proofs.Ytfjcmniicbppdaa
open Go Go.Proofs Go.RowKit Go.Deep

set_option maxRecDepth 100000 in
set_option maxHeartbeats 4000000 in
theorem byte3b {w : World} {q : Nat} {v : Value} {T : List Nat} (h : RF w q v 3 T) (hT : T.length ≤ 16777216) :
    Calls Try.prog 25 #[.pointer (some ⟨q, 0, none⟩), .int .u8 11] w (PB w q v (3, T) 11) := by
  obtain ⟨ao, cap, rfl⟩ := own_slice h.own
  obtain ⟨i0, hi, hz0, hz1, hz2⟩ := info_parts info5s
  have HB : Hid (RB w q (.slice ao T.length cap) (w.alloc (.cells #[.string ⟨#[]⟩, .bool false] 37)) _ (.slice ao T.length cap) _ T) := RB.start h
  have hne : w.heap.size ≠ q := by have := h.row.lt; omega
  have hne' : q ≠ w.heap.size := fun e => hne e.symm
  clear h
  go_enter Try.func25, Try.ntmps25
  go_upto_region 1 with fail
  generalize w.alloc (.cells #[.string ⟨#[]⟩, .bool false] 37) = W1 at *
  have HB : Hid (RB w q (.slice ao T.length cap) W1 true (.slice ao T.length cap) true T) := HB
  obtain ⟨c1, c2, c3, cf⟩ := HB.out.cells
  obtain ⟨r0, r1, rf⟩ := HB.out.rcells
  have HB3 : Hid (RB w q (.slice ao T.length cap) (W1.setCell ⟨q, 3, none⟩ (.bool false)) true (.slice ao T.length cap) false T) := HB.out.set3 false
  have HQ : Hid (q < W1.heap.size) := HB.out.row.lt
  go_upto_region 9 with fail
  generalize W1.setCell ⟨q, 3, none⟩ (.bool false) = W2 at *
  clear c1 c2 c3 cf r0 r1 rf HB HQ
  have HQ : Hid (q < W2.heap.size) := HB3.out.row.lt
  obtain ⟨c1, c2, c3, cf⟩ := HB3.out.cells
  go_wp2_with (first | (at_builtin; refine wpList_append_lies _ rfl _ _ 22 rfl (q + 1) 5 i0 _ 1 1 Try.underlying22 hi hz0 hz1 hz2 rfl (by decide) (.slice ao T.length cap) (T).length (u8s T) rfl (World.ownsRow.alloc HB3.out.own _) ⟨W2.heap.size, 0, none⟩ 1 1 [.int .u8 28] rfl rfl (cell_one_new _ _ _) (by intro u hu; simp at hu; subst hu; rfl) (by decide) (by unfold maxLen; simp; omega) (by simp; omega) (by have := HQ.out; simp; omega) (W2.heap.size + 1) (by simp) ?_) | fail)
  · intro g cp W4 hown2 hgrow2 hat2 hlt2
    have HP : Hid (RB w q (.slice ao T.length cap) (W4.setCell ⟨q, 2, none⟩ (.slice (some ⟨g, 0, none⟩) (T.length + 1) cp)) true (.slice (some ⟨g, 0, none⟩) (T.length + 1) cp) false (T ++ [28])) := HB3.out.push (c := 28) (by decide) hgrow2 hown2 hat2
    obtain ⟨k1, k2, k3⟩ := HB3.out.grown hgrow2
    have kf := k1.frozen
    have kc : W4.cell? ⟨q, 2, none⟩ = some (.slice ao T.length cap) := k1.cell (i := 2) (by omega)
    clear hown2 hgrow2 hat2 hlt2 k1 k2 k3 c1 c2 c3 cf HB3
    go_upto_region 11 with fail
    generalize W4.setCell ⟨q, 2, none⟩ (.slice (some ⟨g, 0, none⟩) (T.length + 1) cp) = W5 at *
    obtain ⟨c1, c2, c3, cf⟩ := HP.out.cells
    obtain ⟨r0, r1, rf⟩ := HP.out.rcells
    clear kf kc
    go_wp2
    refine bodyPost_ret (v := .tuple #[.agg #[.string ⟨#[]⟩, .bool false], .bool false]) (by simp [results, Try.results25, go_sem, *]) rfl ⟨rfl, RB.fin (s := 2) ((HP.out.set1 true).nil) _ _⟩

set_option maxRecDepth 100000 in
set_option maxHeartbeats 4000000 in
theorem byte3e {w : World} {q : Nat} {v : Value} {T : List Nat} (h : RF w q v 3 T) (hT : T.length ≤ 16777216) :
    Calls Try.prog 25 #[.pointer (some ⟨q, 0, none⟩), .int .u8 28] w (PB w q v (3, T) 28) := by
  obtain ⟨ao, cap, rfl⟩ := own_slice h.own
  obtain ⟨i0, hi, hz0, hz1, hz2⟩ := info_parts info5s
  have HB : Hid (RB w q (.slice ao T.length cap) (w.alloc (.cells #[.string ⟨#[]⟩, .bool false] 37)) _ (.slice ao T.length cap) _ T) := RB.start h
  have hne : w.heap.size ≠ q := by have := h.row.lt; omega
  have hne' : q ≠ w.heap.size := fun e => hne e.symm
  clear h
  go_enter Try.func25, Try.ntmps25
  go_upto_region 1 with fail
  generalize w.alloc (.cells #[.string ⟨#[]⟩, .bool false] 37) = W1 at *
  have HB : Hid (RB w q (.slice ao T.length cap) W1 true (.slice ao T.length cap) true T) := HB
  obtain ⟨c1, c2, c3, cf⟩ := HB.out.cells
  obtain ⟨r0, r1, rf⟩ := HB.out.rcells
  have HB3 : Hid (RB w q (.slice ao T.length cap) (W1.setCell ⟨q, 3, none⟩ (.bool false)) true (.slice ao T.length cap) false T) := HB.out.set3 false
  have HQ : Hid (q < W1.heap.size) := HB.out.row.lt
  go_upto_region 9 with fail
  generalize W1.setCell ⟨q, 3, none⟩ (.bool false) = W2 at *
  clear c1 c2 c3 cf r0 r1 rf HB HQ
  have HQ : Hid (q < W2.heap.size) := HB3.out.row.lt
  obtain ⟨c1, c2, c3, cf⟩ := HB3.out.cells
  go_wp2_with (first | (at_builtin; refine wpList_append_lies _ rfl _ _ 22 rfl (q + 1) 5 i0 _ 1 1 Try.underlying22 hi hz0 hz1 hz2 rfl (by decide) (.slice ao T.length cap) (T).length (u8s T) rfl (World.ownsRow.alloc HB3.out.own _) ⟨W2.heap.size, 0, none⟩ 1 1 [.int .u8 28] rfl rfl (cell_one_new _ _ _) (by intro u hu; simp at hu; subst hu; rfl) (by decide) (by unfold maxLen; simp; omega) (by simp; omega) (by have := HQ.out; simp; omega) (W2.heap.size + 1) (by simp) ?_) | fail)
  · intro g cp W4 hown2 hgrow2 hat2 hlt2
    have HP : Hid (RB w q (.slice ao T.length cap) (W4.setCell ⟨q, 2, none⟩ (.slice (some ⟨g, 0, none⟩) (T.length + 1) cp)) true (.slice (some ⟨g, 0, none⟩) (T.length + 1) cp) false (T ++ [28])) := HB3.out.push (c := 28) (by decide) hgrow2 hown2 hat2
    obtain ⟨k1, k2, k3⟩ := HB3.out.grown hgrow2
    have kf := k1.frozen
    have kc : W4.cell? ⟨q, 2, none⟩ = some (.slice ao T.length cap) := k1.cell (i := 2) (by omega)
    clear hown2 hgrow2 hat2 hlt2 k1 k2 k3 c1 c2 c3 cf HB3
    go_upto_region 11 with fail
    generalize W4.setCell ⟨q, 2, none⟩ (.slice (some ⟨g, 0, none⟩) (T.length + 1) cp) = W5 at *
    obtain ⟨c1, c2, c3, cf⟩ := HP.out.cells
    obtain ⟨r0, r1, rf⟩ := HP.out.rcells
    clear kf kc
    go_wp2
    refine bodyPost_ret (v := .tuple #[.agg #[.string ⟨#[]⟩, .bool false], .bool false]) (by simp [results, Try.results25, go_sem, *]) rfl ⟨rfl, RB.fin (s := 3) (HP.out.set3 true) _ _⟩

set_option maxRecDepth 100000 in
set_option maxHeartbeats 4000000 in
theorem byte3k {w : World} {q : Nat} {v : Value} {T : List Nat} (h : RF w q v 3 T) (hT : T.length ≤ 16777216) (c : Nat) (hc : c < 256) (h13 : c ≠ 13) (h11 : c ≠ 11) (h28 : c ≠ 28) :
    Calls Try.prog 25 #[.pointer (some ⟨q, 0, none⟩), .int .u8 (c : Int)] w (PB w q v (3, T) c) := by
  have e0 : ((c : Int) == 11) = false := by simp; omega
  have e1 : ((c : Int) == 28) = false := by simp; omega
  have e4 : ((c : Int) == 13) = false := by simp; omega
  have e2 : rsp c (3, T) = (2, T ++ [28] ++ [c]) := by simp [rsp, rlk, h11, h28, h13]
  have e3 : ot c (ab (3, T)) = [] := by simp [ot, ab, h13]
  obtain ⟨ao, cap, rfl⟩ := own_slice h.own
  obtain ⟨i0, hi, hz0, hz1, hz2⟩ := info_parts info5s
  have HB : Hid (RB w q (.slice ao T.length cap) (w.alloc (.cells #[.string ⟨#[]⟩, .bool false] 37)) _ (.slice ao T.length cap) _ T) := RB.start h
  have hne : w.heap.size ≠ q := by have := h.row.lt; omega
  have hne' : q ≠ w.heap.size := fun e => hne e.symm
  clear h
  go_enter Try.func25, Try.ntmps25
  go_upto_region 1 with fail
  generalize w.alloc (.cells #[.string ⟨#[]⟩, .bool false] 37) = W1 at *
  have HB : Hid (RB w q (.slice ao T.length cap) W1 true (.slice ao T.length cap) true T) := HB
  obtain ⟨c1, c2, c3, cf⟩ := HB.out.cells
  obtain ⟨r0, r1, rf⟩ := HB.out.rcells
  have HB3 : Hid (RB w q (.slice ao T.length cap) (W1.setCell ⟨q, 3, none⟩ (.bool false)) true (.slice ao T.length cap) false T) := HB.out.set3 false
  have HQ : Hid (q < W1.heap.size) := HB.out.row.lt
  go_upto_region 9 with fail
  generalize W1.setCell ⟨q, 3, none⟩ (.bool false) = W2 at *
  clear c1 c2 c3 cf r0 r1 rf HB HQ
  have HQ : Hid (q < W2.heap.size) := HB3.out.row.lt
  obtain ⟨c1, c2, c3, cf⟩ := HB3.out.cells
  go_wp2_with (first | (at_builtin; refine wpList_append_lies _ rfl _ _ 22 rfl (q + 1) 5 i0 _ 1 1 Try.underlying22 hi hz0 hz1 hz2 rfl (by decide) (.slice ao T.length cap) (T).length (u8s T) rfl (World.ownsRow.alloc HB3.out.own _) ⟨W2.heap.size, 0, none⟩ 1 1 [.int .u8 28] rfl rfl (cell_one_new _ _ _) (by intro u hu; simp at hu; subst hu; rfl) (by decide) (by unfold maxLen; simp; omega) (by simp; omega) (by have := HQ.out; simp; omega) (W2.heap.size + 1) (by simp) ?_) | fail)
  · intro g cp W4 hown2 hgrow2 hat2 hlt2
    have HP : Hid (RB w q (.slice ao T.length cap) (W4.setCell ⟨q, 2, none⟩ (.slice (some ⟨g, 0, none⟩) (T.length + 1) cp)) true (.slice (some ⟨g, 0, none⟩) (T.length + 1) cp) false (T ++ [28])) := HB3.out.push (c := 28) (by decide) hgrow2 hown2 hat2
    obtain ⟨k1, k2, k3⟩ := HB3.out.grown hgrow2
    have kf := k1.frozen
    have kc : W4.cell? ⟨q, 2, none⟩ = some (.slice ao T.length cap) := k1.cell (i := 2) (by omega)
    clear hown2 hgrow2 hat2 hlt2 k1 k2 k3 c1 c2 c3 cf HB3
    go_upto_region 11 with fail
    generalize W4.setCell ⟨q, 2, none⟩ (.slice (some ⟨g, 0, none⟩) (T.length + 1) cp) = W5 at *
    obtain ⟨c1, c2, c3, cf⟩ := HP.out.cells
    obtain ⟨r0, r1, rf⟩ := HP.out.rcells
    clear kf kc
    have HQ : Hid (q < W5.heap.size) := HP.out.row.lt
    have HO : Hid (W5.ownsRow (q + 1) 5 1 (.slice (some ⟨g, 0, none⟩) (T.length + 1) cp) (T ++ [28]).length (u8s (T ++ [28]))) := HP.out.own
    have hl2 : (T ++ [28]).length = T.length + 1 := by simp
    go_wp2_with (first | (at_builtin; refine wpList_append_lies _ rfl _ _ 22 rfl (q + 1) 5 i0 _ 1 1 Try.underlying22 hi hz0 hz1 hz2 rfl (by decide) (.slice (some ⟨g, 0, none⟩) (T.length + 1) cp) ((T ++ [28])).length (u8s (T ++ [28])) rfl (World.ownsRow.alloc HO.out _) ⟨W5.heap.size, 0, none⟩ 1 1 [.int .u8 (c : Int)] rfl rfl (cell_one_new _ _ _) (by intro u hu; simp at hu; subst hu; rfl) (by decide) (by unfold maxLen; simp; omega) (by simp; omega) (by have := HQ.out; simp; omega) (W5.heap.size + 1) (by simp) ?_) | fail)
    · intro g2 cp2 W6 hown2 hgrow2 hat2 hlt2
      have HP2 : Hid (RB w q (.slice ao T.length cap) (W6.setCell ⟨q, 2, none⟩ (.slice (some ⟨g2, 0, none⟩) (T.length + 1 + 1) cp2)) true (.slice (some ⟨g2, 0, none⟩) (T.length + 1 + 1) cp2) false (T ++ [28] ++ [c])) := by
        have := HP.out.push (c := c) (g := g2) (cp := cp2) hc hgrow2 (by rw [hl2]; exact hown2) hat2
        rw [hl2] at this
        exact this
      obtain ⟨k1, k2, k3⟩ := HP.out.grown hgrow2
      have kf := k1.frozen
      have kc : W6.cell? ⟨q, 2, none⟩ = some (.slice (some ⟨g, 0, none⟩) (T.length + 1) cp) := k1.cell (i := 2) (by omega)
      clear hown2 hgrow2 hat2 hlt2 k1 k2 k3 c1 c2 c3 cf r0 r1 rf
      go_upto_region 17 with fail
      generalize W6.setCell ⟨q, 2, none⟩ (.slice (some ⟨g2, 0, none⟩) (T.length + 1 + 1) cp2) = W7 at *
      obtain ⟨r0, r1, rf⟩ := HP2.out.rcells
      go_wp2
      refine bodyPost_ret (v := .tuple #[.agg #[.string ⟨#[]⟩, .bool false], .bool false]) (by simp [results, Try.results25, go_sem, *]) rfl ⟨by rw [e3]; rfl, by rw [e2]; exact RB.fin (s := 2) HP2.out _ _⟩

theorem V.take {w : World} {ao : Option Addr} {n cap : Nat} {T : List Nat} (h : V w (.slice ao n cap) T) (k : Nat) (hk : k ≤ T.length) : V w (.slice ao k cap) (T.take k) := by
  rcases h with ⟨a1, c1, e, rfl⟩ | ⟨b, off, c, e, hp, hc, h1, h2⟩
  · have : k = 0 := by simpa using hk
    subst this
    exact .inl ⟨_, _, rfl, by simp⟩
  · cases e
    rcases Nat.eq_zero_or_pos k with rfl | hp
    · exact .inl ⟨_, _, rfl, by simp⟩
    · have hl : (T.take k).length = k := by rw [List.length_take]; omega
      refine .inr ⟨b, off, cap, by rw [hl], by omega, by omega, fun i hi => ?_, fun x hx => h2 x (List.mem_of_mem_take hx)⟩
      rw [hl] at hi
      rw [h1 i (by omega), List.getD_eq_getElem?_getD, List.getD_eq_getElem?_getD, List.getElem?_take_of_lt hi]

set_option maxRecDepth 100000 in
theorem first_any {w : World} {v : Value} {T : List Nat} (h : V w v T) (hT : T.length ≤ 16777216) : Calls Try.prog 36 #[v] w fun e w' => e = .returned (.string (arr (T.take 16384))) ∧ w = w' := by
  obtain ⟨ao, cap, rfl, hf, hb⟩ := h.form
  by_cases hg : 16384 < T.length
  · have hcap : T.length ≤ cap := by
      rcases h with ⟨a1, c1, e, rfl⟩ | ⟨b, off, c, e, hp, hc, _⟩
      · simp at hg
      · cases e; exact hc
    obtain ⟨b, off, rfl, _⟩ := hf (by omega)
    have e1 : decide ((16384 : Int) < (T.length : Int)) = true := by simp; omega
    have e2 : ((T.length : Int) > 16384) := by omega
    have hV := h.take 16384 (by omega)
    have hconv : (convert 22 9 (.slice (some ⟨b, off, none⟩) 16384 cap)).run Try.prog w = .ok (.string (arr (T.take 16384))) w := by
      obtain ⟨ao2, cap2, e, _, hbs⟩ := hV.bs
      have hl : (arr (T.take 16384)).size = 16384 := by rw [arr_size, List.length_take]; omega
      rw [hl] at e
      cases e
      have := hbs.conv (cap := cap)
      rw [hl] at this
      exact this
    clear h hf hb hV
    go_enter Try.func36, Try.ntmps36
    go_wp2
    go_ret
    exact ⟨rfl, rfl⟩
  · have e2 : ¬ ((T.length : Int) > 16384) := by omega
    have e1 : decide ((16384 : Int) < (T.length : Int)) = false := by simp; omega
    rw [List.take_of_length_le (by omega)]
    have hconv : (convert 22 9 (.slice ao T.length cap)).run Try.prog w = .ok (.string (arr T)) w := by
      obtain ⟨ao2, cap2, e, _, hbs⟩ := h.bs
      rw [arr_size] at e
      cases e
      have := hbs.conv (cap := cap)
      rw [arr_size] at this
      exact this
    clear h hf hb
    go_enter Try.func36, Try.ntmps36
    go_wp2
    go_ret
    exact ⟨rfl, rfl⟩
end Go.Proofs.Ytfjcmniicbppdaa
