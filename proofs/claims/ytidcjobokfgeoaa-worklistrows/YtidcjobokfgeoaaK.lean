import Derived.Test.YtidcjobokfgeoaaG
import Derived.Test.YtidcjobokfgeoaaJ
/-
  DERIVED. Row of any step.
-/
namespace Go.Proofs.Ytidcjobokfgeoaa
open Go Go.Proofs Go.RowKit

theorem step_load23 {w : World} {ops : Array Oper} {o : Oper} {a : Act} {K : Act → World → Prop} {Q : Exit → Act → World → Prop} {E : Prop} (hgd : o.guard = none) (y : Operand) (ho : o.op = .load 23 y) (g : Nat) (hy : a.eval y = .pointer (some ⟨g, 0, none⟩)) (x : Nat → ByteArray) (z : Int) (hg : w.heap[g]? = some (.cells (SP x z) 23))
    (h : K (a.put o.dst (.agg (SP x z))) w) : if Region.wanted o (yielded ops a.tmps) = true then Oper.wp Try.prog o a w K Q else E := by
  have hw : Region.wanted o (yielded ops a.tmps) = true := by simp [Region.wanted, hgd]
  rw [if_pos hw]
  obtain ⟨fs, hu⟩ := under23
  exact wp_load_row 23 y ho g hy 23 (SP x z) (0, 0) _ hg hu rfl size23 h

set_option maxRecDepth 100000 in
set_option maxHeartbeats 4000000 in
theorem row_any (w : World) (x : Nat → ByteArray) (z : Int) : Calls Try.prog 4 #[.agg (SP x z)] w fun e w' => ∃ g cap, e = .returned (.slice (some ⟨g, 0, none⟩) 22 cap) ∧ w'.ownsRow w.heap.size 41 4 (.slice (some ⟨g, 0, none⟩) 22 cap) 22 (ans x z 22) ∧ Below w.heap.size w w' := by
  obtain ⟨w1, hw1⟩ : ∃ w1, w1 = w.alloc (.cells (SP x z) 23) := ⟨_, rfl⟩
  have HS1 : Hid (w1.heap[w.heap.size]? = some (.cells (SP x z) 23)) := by rw [hw1]; exact heap_new w _
  have HB1 : Hid (Below w.heap.size w w1) := by rw [hw1]; exact (Below.refl _ _).alloc (Nat.le_refl _) _
  have hl1 : w.heap.size < w1.heap.size := (Array.getElem?_eq_some_iff.1 HS1.out).1
  go_enter Try.func4, Try.ntmps4
  go_wp2
  rw [← hw1]
  clear hw1
  refine wp_region_any (by kernel_rfl) ?_
  change wpAny _ _ _ _ _ _ _ (World.drew _)
  refine wpAny_ready (rs := [0, 2]) (by kernel_rfl) (by simp) ?_
  refine AllReady.cons rfl (fun K hK => ?_) ?_
  · go_simp
    go_at_call 9
    refine Calls.mono (blank_any _ 0) ?_
    rintro e W2 ⟨v2, rfl, ho2, hb2⟩
    have hb2' : Below w1.heap.size w1 W2 := ⟨hb2.os, hb2.tape, hb2.output, hb2.size, hb2.block⟩
    rw [sel0] at ho2
    obtain ⟨gk, ck, hv⟩ := owns_succ ho2
    subst hv
    have HK2 : Hid (Ky gk ck W2) := own_base ho2 (Nat.zero_le _)
    have HS2 : Hid (W2.heap[w.heap.size]? = some (.cells (SP x z) 23)) := (hb2'.block _ hl1).trans HS1.out
    have HB2 : Hid (Below w1.heap.size w1 W2) := hb2'
    clear ho2 hb2 hb2'
    refine hK _ _ ?_
    clear hK K
    refine wpAny_ready (rs := [1, 2]) (by kernel_rfl) (by simp) ?_
    refine AllReady.cons rfl (fun K hK => ?_) ?_
    · go_simp
      go_at_call 8
      refine Calls.mono (read_any _ gk ck HK2.out) ?_
      rintro e W3 ⟨gq, cq, rfl, ho3, hb3⟩
      have HQ3 : Hid (Qy gq cq W3) := own_base ho3 (Nat.zero_le _)
      have HB3 : Hid (Below w1.heap.size w1 W3) := HB2.out.trans (hb3.mono HB2.out.size)
      have HS3 : Hid (W3.heap[w.heap.size]? = some (.cells (SP x z) 23)) := (HB3.out.block _ hl1).trans HS1.out
      clear ho3 hb3
      refine hK _ _ ?_
      clear hK K
      refine wpAny_ready (rs := [2]) (by kernel_rfl) (by simp) ?_
      refine AllReady.cons rfl (fun K hK => ?_) AllReady.nil
      refine step_load23 rfl (.tmp 1) rfl w.heap.size (by simp [Act.eval]) x z HS3.out ?_
      refine hK _ _ ?_
      clear hK K
      refine wpAny_ready (rs := [3]) (by kernel_rfl) (by simp) ?_
      refine AllReady.cons rfl (fun K hK => ?_) AllReady.nil
      go_simp
      go_at_call 10
      refine Calls.mono (answer_any _ gq cq x z HQ3.out) ?_
      rintro e W4 ⟨ga, ca, rfl, ho4, hb4⟩
      have HO4 : Hid (W4.ownsRow w.heap.size 41 4 (.slice (some ⟨ga, 0, none⟩) 22 ca) 22 (ans x z 22)) := own_base ho4 (Nat.le_trans (Nat.le_of_lt hl1) HB3.out.size)
      have HB4 : Hid (Below w.heap.size w W4) := HB1.out.trans ((HB3.out.trans (hb4.mono HB3.out.size)).mono (Nat.le_of_lt hl1))
      clear ho4 hb4
      refine hK _ _ ?_
      clear hK K
      refine wpAny_ready (rs := [4]) (by kernel_rfl) (by simp) ?_
      refine AllReady.cons rfl (fun K hK => ?_) AllReady.nil
      go_simp
      refine hK _ _ ?_
      clear hK K
      refine wpAny_done (by kernel_rfl) ?_ _
      go_wp2
      go_ret
      exact ⟨ga, ca, rfl, HO4.out, HB4.out⟩
    · refine AllReady.cons rfl (fun K hK => ?_) AllReady.nil
      refine step_load23 rfl (.tmp 1) rfl w.heap.size (by simp [Act.eval]) x z HS2.out ?_
      refine hK _ _ ?_
      clear hK K
      refine wpAny_ready (rs := [1]) (by kernel_rfl) (by simp) ?_
      refine AllReady.cons rfl (fun K hK => ?_) AllReady.nil
      go_simp
      go_at_call 8
      refine Calls.mono (read_any _ gk ck HK2.out) ?_
      rintro e W3 ⟨gq, cq, rfl, ho3, hb3⟩
      have HQ3 : Hid (Qy gq cq W3) := own_base ho3 (Nat.zero_le _)
      have HB3 : Hid (Below w1.heap.size w1 W3) := HB2.out.trans (hb3.mono HB2.out.size)
      have HS3 : Hid (W3.heap[w.heap.size]? = some (.cells (SP x z) 23)) := (HB3.out.block _ hl1).trans HS1.out
      clear ho3 hb3
      refine hK _ _ ?_
      clear hK K
      refine wpAny_ready (rs := [3]) (by kernel_rfl) (by simp) ?_
      refine AllReady.cons rfl (fun K hK => ?_) AllReady.nil
      go_simp
      go_at_call 10
      refine Calls.mono (answer_any _ gq cq x z HQ3.out) ?_
      rintro e W4 ⟨ga, ca, rfl, ho4, hb4⟩
      have HO4 : Hid (W4.ownsRow w.heap.size 41 4 (.slice (some ⟨ga, 0, none⟩) 22 ca) 22 (ans x z 22)) := own_base ho4 (Nat.le_trans (Nat.le_of_lt hl1) HB3.out.size)
      have HB4 : Hid (Below w.heap.size w W4) := HB1.out.trans ((HB3.out.trans (hb4.mono HB3.out.size)).mono (Nat.le_of_lt hl1))
      clear ho4 hb4
      refine hK _ _ ?_
      clear hK K
      refine wpAny_ready (rs := [4]) (by kernel_rfl) (by simp) ?_
      refine AllReady.cons rfl (fun K hK => ?_) AllReady.nil
      go_simp
      refine hK _ _ ?_
      clear hK K
      refine wpAny_done (by kernel_rfl) ?_ _
      go_wp2
      go_ret
      exact ⟨ga, ca, rfl, HO4.out, HB4.out⟩
  · refine AllReady.cons rfl (fun K hK => ?_) AllReady.nil
    refine step_load23 rfl (.tmp 1) rfl w.heap.size (by simp [Act.eval]) x z HS1.out ?_
    refine hK _ _ ?_
    clear hK K
    refine wpAny_ready (rs := [0]) (by kernel_rfl) (by simp) ?_
    refine AllReady.cons rfl (fun K hK => ?_) AllReady.nil
    go_simp
    go_at_call 9
    refine Calls.mono (blank_any _ 0) ?_
    rintro e W2 ⟨v2, rfl, ho2, hb2⟩
    have hb2' : Below w1.heap.size w1 W2 := ⟨hb2.os, hb2.tape, hb2.output, hb2.size, hb2.block⟩
    rw [sel0] at ho2
    obtain ⟨gk, ck, hv⟩ := owns_succ ho2
    subst hv
    have HK2 : Hid (Ky gk ck W2) := own_base ho2 (Nat.zero_le _)
    have HS2 : Hid (W2.heap[w.heap.size]? = some (.cells (SP x z) 23)) := (hb2'.block _ hl1).trans HS1.out
    have HB2 : Hid (Below w1.heap.size w1 W2) := hb2'
    clear ho2 hb2 hb2'
    refine hK _ _ ?_
    clear hK K
    refine wpAny_ready (rs := [1]) (by kernel_rfl) (by simp) ?_
    refine AllReady.cons rfl (fun K hK => ?_) AllReady.nil
    go_simp
    go_at_call 8
    refine Calls.mono (read_any _ gk ck HK2.out) ?_
    rintro e W3 ⟨gq, cq, rfl, ho3, hb3⟩
    have HQ3 : Hid (Qy gq cq W3) := own_base ho3 (Nat.zero_le _)
    have HB3 : Hid (Below w1.heap.size w1 W3) := HB2.out.trans (hb3.mono HB2.out.size)
    have HS3 : Hid (W3.heap[w.heap.size]? = some (.cells (SP x z) 23)) := (HB3.out.block _ hl1).trans HS1.out
    clear ho3 hb3
    refine hK _ _ ?_
    clear hK K
    refine wpAny_ready (rs := [3]) (by kernel_rfl) (by simp) ?_
    refine AllReady.cons rfl (fun K hK => ?_) AllReady.nil
    go_simp
    go_at_call 10
    refine Calls.mono (answer_any _ gq cq x z HQ3.out) ?_
    rintro e W4 ⟨ga, ca, rfl, ho4, hb4⟩
    have HO4 : Hid (W4.ownsRow w.heap.size 41 4 (.slice (some ⟨ga, 0, none⟩) 22 ca) 22 (ans x z 22)) := own_base ho4 (Nat.le_trans (Nat.le_of_lt hl1) HB3.out.size)
    have HB4 : Hid (Below w.heap.size w W4) := HB1.out.trans ((HB3.out.trans (hb4.mono HB3.out.size)).mono (Nat.le_of_lt hl1))
    clear ho4 hb4
    refine hK _ _ ?_
    clear hK K
    refine wpAny_ready (rs := [4]) (by kernel_rfl) (by simp) ?_
    refine AllReady.cons rfl (fun K hK => ?_) AllReady.nil
    go_simp
    refine hK _ _ ?_
    clear hK K
    refine wpAny_done (by kernel_rfl) ?_ _
    go_wp2
    go_ret
    exact ⟨ga, ca, rfl, HO4.out, HB4.out⟩
end Go.Proofs.Ytidcjobokfgeoaa
