import Derived.Test.YtehgeninocbpeaaDoorOf
import Derived.Deep.RegionHeld3
/-
  DERIVED. A refusal of the document, moved.
-/
namespace Go.Proofs.YtehgeninocbpeaaDoor.Tm
open Go Go.Proofs Go.RowKit

structure Mv (W : World) (q g cp : Nat) (a c : Int) : Prop where
  q0 : W.cell? ⟨q, 0, none⟩ = some (.slice (some ⟨g, 0, none⟩) 1 cp)
  q1 : W.cell? ⟨q, 1, none⟩ = some (.int .i64 c)
  g1 : W.cell? ⟨g, 1, none⟩ = some (.int .i64 a)
theorem Mv.on {W W' : World} {q g cp : Nat} {a c : Int} (h : Mv W q g cp a c) (hb : Below W.heap.size W W') : Mv W' q g cp a c := ⟨(hb.cell (cell_lt h.q0)).trans h.q0, (hb.cell (cell_lt h.q1)).trans h.q1, (hb.cell (cell_lt h.g1)).trans h.g1⟩
set_option maxRecDepth 100000 in
set_option maxHeartbeats 2000000 in
theorem moved_any (w : World) (v : Value) (a c : Int) (k : Nat) (hv : RErr w v (some (a, c))) (ha1 : 0 ≤ a) (ha2 : a ≤ 200000000000000) (hk : k ≤ 200000000000000) : Calls Tryd.prog 24 #[v, .int .i64 (k : Int)] w fun e w' => ∃ v', e = .returned v' ∧ RErr w' v' (some (a + (k : Int), c)) ∧ Below w.heap.size w w' := by
  obtain ⟨g, cp, rfl, h0, h1⟩ := hv
  have cN := fun W => no_any (a + (k : Int)) c W
  have hw : IntKind.i64.wrap (a + (k : Int)) = a + (k : Int) := Go.IntWalk.i64_in _ (by omega)
  obtain ⟨q, hq⟩ : ∃ q, w.heap.size = q := ⟨_, rfl⟩
  obtain ⟨W0, hW0⟩ : ∃ W0, (w.alloc (.cells #[.slice (some ⟨g, 0, none⟩) 1 cp, .int .i64 c] 31)).alloc (.cells #[.slice none 0 0, .int .i64 0] 31) = W0 := ⟨_, rfl⟩
  have hb0 : Below w.heap.size w W0 := hW0 ▸ ((Below.refl _ _).alloc (Nat.le_refl _) _).alloc (by simp) _
  have g1 : W0.cell? ⟨g, 1, none⟩ = some (.int .i64 a) := (hb0.cell (cell_lt h1)).trans h1
  have hM : Mv W0.drew q g cp a c := ⟨by show W0.cell? _ = _; rw [← hW0, ← hq]; simp, by show W0.cell? _ = _; rw [← hW0, ← hq]; simp, g1⟩
  have HR : Hid (W0.drew.rowIs (q + 1) 31 2 fN) := by
    show W0.rowIs (q + 1) 31 2 fN
    have := (MN.start w #[.slice (some ⟨g, 0, none⟩) 1 cp, .int .i64 c] 31).e
    rw [hW0, hq] at this
    exact this
  have HB : Hid (Below q w W0.drew) := by
    show Below q w W0.drew
    rw [← hq]
    exact hb0.drew
  have hn1 : q + 1 ≠ q := by omega
  have hn2 : q + 1 ≠ g := by have h := cell_lt h1; dsimp only at h; omega
  clear hb0 g1 h0 h1
  go_enter Tryd.func24, Tryd.ntmps24
  go_upto_region 1 with fail
  clear hW0
  go_region_held3 (fun w' => w'.cell? ⟨q, 0, none⟩ = some (.slice (some ⟨g, 0, none⟩) 1 cp) ∧ w'.cell? ⟨q, 1, none⟩ = some (.int .i64 c) ∧ w'.cell? ⟨g, 1, none⟩ = some (.int .i64 a)) (first | exact ⟨hM.q0, hM.q1, hM.g1⟩ | exact ⟨by rw [cell_set_off hn1, cell_set_off hn1]; exact hM.q0, by rw [cell_set_off hn1, cell_set_off hn1]; exact hM.q1, by rw [cell_set_off hn2, cell_set_off hn2]; exact hM.g1⟩) (first | (go_at_call 18; refine (cN _).mono ?_; rintro e W9 ⟨v9, rfl, hv9, hb9⟩; have HV9 : Hid (RErr W9 v9 (some (a + (k : Int), c))) := hv9; obtain ⟨g9, c9, rfl, _, _⟩ := hv9; replace hM := hM.on hb9; have HR9 := row_on HR.out hb9; have HB9 := HB.out.trans (hb9.mono (Nat.le_of_lt (Nat.lt_of_succ_lt HR.out.lt))); have r0 : W9.cell? ⟨q + 1, 0, none⟩ = some (.slice none 0 0) := HR9.cell (i := 0) (by omega); have r1 : W9.cell? ⟨q + 1, 1, none⟩ = some (.int .i64 0) := HR9.cell (i := 1) (by omega); have rf := fun i => HR9.frozen i) | fail)
  all_goals
    have HN := HV9.out.ne r0 (fun s h => by cases h)
    go_wp2
    refine bodyPost_ret (v := .agg #[.slice (some ⟨g9, 0, none⟩) 1 c9, .int .i64 c]) (by simp [results, Tryd.results24, go_sem, r0, r1]) rfl ⟨_, rfl, ?_, ?_⟩
    · repeat (first | refine RErr.drewW ?_ | refine RErr.set ?_ HN)
      exact HV9.out
    rw [hq]
    repeat (first | refine Below.drew ?_ | refine Below.setCell ?_ (by first | exact Nat.le_refl _ | exact Nat.le_succ _) _)
    exact HB9
end Go.Proofs.YtehgeninocbpeaaDoor.Tm

/-
  DERIVED. Where a refusal may stand.
-/
namespace Go.Proofs.YtehgeninocbpeaaDoor.Tm
open Go Go.Proofs Go.RowKit

def Pb (s : ByteArray) (S : Mst) : Prop := S.a ≤ s.size ∧ ∀ p c, S.o = some (p, c) → 0 ≤ p ∧ p ≤ (s.size : Int)
theorem pb_next {s : ByteArray} {o : Option (Int × Int)} {bad : Bool} {pl : Nat} (h : ∀ p c, o = some (p, c) → 0 ≤ p ∧ p ≤ (s.size : Int)) (hp : pl ≤ s.size) : ∀ p c, nextD o bad pl = some (p, c) → 0 ≤ p ∧ p ≤ (s.size : Int) := by
  intro p c e
  unfold nextD at e
  split at e
  · split at e
    · have := (Prod.mk.inj (Option.some.inj e)).1
      omega
    · exact h p c e
  · exact h p c e
theorem pb_pc {s : ByteArray} {S : Mst} (h : Pb s S) (k : Nat) : S.a + pcC s S k ≤ s.size := by
  unfold pcC
  split
  · exact h.1
  · exact cnt_size s k S.a h.1
theorem pb_year {s : ByteArray} {S : Mst} (h : Pb s S) : Pb s (yearS s S) := ⟨pb_pc h 4, pb_next h.2 h.1⟩
theorem pb_month {s : ByteArray} {S : Mst} (h : Pb s S) : Pb s (monthS s S) := ⟨pb_pc h 2, pb_next h.2 h.1⟩
theorem pb_day {s : ByteArray} {S : Mst} (h : Pb s S) : Pb s (dayS s S) := ⟨pb_pc h 2, pb_next h.2 h.1⟩
theorem pb_hour {s : ByteArray} {S : Mst} (h : Pb s S) : Pb s (hourS s S) := ⟨pb_pc h 2, pb_next h.2 h.1⟩
theorem pb_minute {s : ByteArray} {S : Mst} (h : Pb s S) : Pb s (minuteS s S) := ⟨pb_pc h 2, pb_next h.2 h.1⟩
theorem pb_second {s : ByteArray} {S : Mst} (h : Pb s S) : Pb s (secondS s S) := ⟨pb_pc h 2, pb_next h.2 h.1⟩
theorem pb_more {s : ByteArray} : ∀ (l : List (Mst → Mst)), (∀ t ∈ l, ∀ S, Pb s S → Pb s (t S)) → ∀ S, Pb s S → Pb s (moreS s l S)
  | [], _, S, h => h
  | t :: l, ht, S, h => by
    rw [moreS]
    split
    · exact pb_more l (fun t' h' => ht t' (List.mem_cons_of_mem _ h')) _ (ht t (by simp) S h)
    · exact h
theorem nx_some {s : ByteArray} {a : Nat} {b : Bool} (h : nx s a b ≠ 0) : a < s.size := by
  rcases Nat.lt_or_ge a s.size with h1 | h1
  · exact h1
  · exact absurd (show nx s a b = 0 by unfold nx; rw [if_pos (Or.inr (by omega))]) h
theorem pb_frac {s : ByteArray} {S : Mst} (h : Pb s S) : Pb s (fracS s S) := by
  unfold fracS
  split
  · exact h
  · split
    · have hl : S.a < s.size := nx_some (b := S.b) (by omega)
      exact ⟨cnt_size s 6 (S.a + 1) (by omega), h.2⟩
    · exact h
theorem zo_a (s : ByteArray) (S : Mst) (x : Nat) : (zoS s S x).a = S.a + 1 + zC1 s (S.a + 1) + zC2 s (S.a + 1) := by simp only [zoS]
theorem pb_zone {s : ByteArray} {S : Mst} (h : Pb s S) : Pb s (zoneS s S) := by
  unfold zoneS
  split
  · have hl : S.a < s.size := nx_some (b := S.b) (by omega)
    have h4 := cnt_size s 4 (S.a + 1) (by omega)
    obtain ⟨c1, _⟩ := cnt4 s (S.a + 1)
    refine ⟨?_, ?_⟩
    · rw [zo_a]; omega
    · rw [zo_o]; exact pb_next h.2 h.1
  · exact h
theorem pb_rdS (vr : Int) (s : ByteArray) : Pb s (rdS vr s 0) := by
  have h0 : Pb s (stA 0) := ⟨Nat.zero_le _, fun p c e => by cases e⟩
  unfold rdS
  split
  · exact pb_day (pb_month (pb_year h0))
  · split
    · refine pb_frac (pb_more _ ?_ _ (pb_hour h0))
      intro t ht S hS
      simp at ht
      rcases ht with rfl | rfl
      · exact pb_minute hS
      · exact pb_second hS
    · refine pb_zone (pb_frac (pb_more _ ?_ _ (pb_year h0)))
      intro t ht S hS
      simp at ht
      rcases ht with rfl | rfl | rfl | rfl | rfl
      · exact pb_month hS
      · exact pb_day hS
      · exact pb_hour hS
      · exact pb_minute hS
      · exact pb_second hS
theorem oR_bd (vr : Int) (s : ByteArray) : ∀ a c, oR vr s 0 = some (a, c) → 0 ≤ a ∧ a ≤ (s.size : Int) := by
  intro a c h
  have hp := pb_rdS vr s
  unfold oR at h
  generalize rdS vr s 0 = S at *
  unfold rdO fmO at h
  split at h
  · have := (Prod.mk.inj (Option.some.inj h)).1
    have := hp.1
    omega
  · exact hp.2 a c h
end Go.Proofs.YtehgeninocbpeaaDoor.Tm
