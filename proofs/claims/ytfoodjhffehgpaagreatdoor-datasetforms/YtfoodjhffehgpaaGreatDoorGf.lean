import Derived.Test.YtfoodjhffehgpaaGreatDoorBo
import Derived.Test.YtfoodjhffehgpaaGreatDoorBs
import Derived.Test.YtfoodjhffehgpaaGreatDoorDc
import Derived.Test.YtfoodjhffehgpaaGreatDoorGc
import Derived.Test.YtfoodjhffehgpaaGreatDoorIh
import Derived.Laws.AppendOwnNone
section
/-
  DERIVED. May it be laid down in both syntaxes? The law's own look.
-/
namespace Go.Proofs.YtfoodjhffehgpaaGreatDoor
open Go Go.Proofs Go.RowKit
open Wk (Nd NV nds)
open Go.Sort

theorem some_zero : SomeC 0 :=
  some_step 0 (by decide) fun _ => some_step 1 (by decide) fun _ => some_step 2 (by decide) fun _ => some_step 3 (by decide) fun _ => some_step 4 (by decide) fun h => absurd h (by decide)
set_option maxRecDepth 100000 in
theorem any_gen (w : World) (g m cap : Nat) (c : Int) (hc : c ≠ 0) : Calls Tryz.prog 12 #[.agg #[.slice (some ⟨g, 0, none⟩) m cap, .int .i64 c]] w fun e w' => e = .returned (.bool true) ∧ Below w.heap.size w w' := by
  have b : (c != 0) = true := bne_iff_ne.2 hc
  clear hc
  go_enter Tryz.func12, Tryz.ntmps12
  go_wp2
  go_ret
  exact ⟨rfl, (Below.refl _ _).alloc (Nat.le_refl _) _⟩
theorem err_c {s : Int} {L : List Nd} {ls : List Lk} {c : Int} (h : errOf s L = some (ls, c)) : c ≠ 0 := by
  unfold errOf at h
  split at h
  · cases h; decide
  · split at h
    · cases h; decide
    · split at h
      · cases h; decide
      · cases h
/-- Is a fault told? -/
theorem any_err (w : World) {w0 : World} {v : Value} {s : Int} {L : List Nd} {z : Bool} (h : RErr2 w0 v (errOf s L)) (hz : (errOf s L).isSome = z) : Calls Tryz.prog 12 #[v] w fun e w' => e = .returned (.bool z) ∧ Below w.heap.size w w' := by
  subst hz
  rcases h with ⟨h, rfl⟩ | ⟨ls, c, g, cg, h, rfl, -⟩
  · rw [h]; exact any_none w
  · have := err_c h
    rw [h]
    exact any_gen w g _ cg c this
theorem rerr_form {w : World} {v : Value} {o : Option (List Lk × Int)} (h : RErr2 w v o) : ∃ (a : Option Addr) (m c : Nat) (z : Int), v = .agg #[.slice a m c, .int .i64 z] := by
  rcases h with ⟨-, rfl⟩ | ⟨ls, c, g, cg, -, rfl, -⟩
  · exact ⟨_, _, _, _, rfl⟩
  · exact ⟨_, _, _, _, rfl⟩

set_option maxRecDepth 100000 in
set_option maxHeartbeats 4000000 in
theorem short_any (w : World) (a : Option Addr) (n cap : Nat) (L : List Nd) (hV : NV w a n cap L) (hT : TagsOk L) (z1 z2 : Bool) (hz1 : (errOf 1 L).isSome = z1) (hz2 : (errOf 2 L).isSome = z2) : Calls Tryz.prog 5 #[.slice a n cap] w fun e w' => e = .returned (.bool (!z1 && !z2)) ∧ Below w.heap.size w w' := by
  have HZ1 : Hid ((errOf 1 L).isSome = z1) := hz1
  have HZ2 : Hid ((errOf 2 L).isSome = z2) := hz2
  clear hz1 hz2
  have HV : Hid (NV w a n cap L) := hV
  have HT : Hid (TagsOk L) := hT
  clear hV hT
  go_enter Tryz.func5, Tryz.ntmps5
  go_wp2_with (go_at_call 11; refine StopQ.out ?_)
  refine ⟨Calls.mono (rsize_any some_zero w a n cap L HV.out HT.out 1) ?_⟩
  rintro e W1 ⟨vf, rfl, hp1, hb1⟩
  obtain ⟨fa, fm, fc, fz, hvf⟩ := rerr_form hp1
  subst hvf
  have HP1 : Hid (RErr2 W1 (.agg #[.slice fa fm fc, .int .i64 fz]) (errOf 1 L)) := hp1
  have HB1 : Hid (Below w.heap.size w W1) := hb1
  clear hp1 hb1
  go_wp2_with (go_at_call 11; refine StopQ.out ?_)
  obtain ⟨W2, hW2⟩ : ∃ W2, W1.alloc (.cells #[.slice fa fm fc, .int .i64 fz] 35) = W2 := ⟨_, rfl⟩
  have hb2 : Below W1.heap.size W1 W2 := by rw [← hW2]; exact (Below.refl _ _).alloc (Nat.le_refl _) _
  have c0 : W2.cell? ⟨W1.heap.size, 0, none⟩ = some (.slice fa fm fc) := by rw [← hW2]; simp
  have c1 : W2.cell? ⟨W1.heap.size, 1, none⟩ = some (.int .i64 fz) := by rw [← hW2]; simp
  rw [hW2]
  have HB2 : Hid (Below w.heap.size w W2) := HB1.out.trans (hb2.mono HB1.out.size)
  have HVT : Hid (NV W2 a n cap L ∧ TagsOk L) := ⟨HV.out.on (HB2.out), HT.out⟩
  refine ⟨Calls.mono (rsize_any some_zero W2 a n cap L HVT.out.1 HVT.out.2 2) ?_⟩
  rintro e W3 ⟨vf, rfl, hp3, hb3⟩
  obtain ⟨ga, gm, gc, gz, hvf⟩ := rerr_form hp3
  subst hvf
  obtain ⟨W4, hW4⟩ : ∃ W4, W3.alloc (.cells #[.slice ga gm gc, .int .i64 gz] 35) = W4 := ⟨_, rfl⟩
  have hb4 : Below W3.heap.size W3 W4 := by rw [← hW4]; exact (Below.refl _ _).alloc (Nat.le_refl _) _
  have d0 : W4.cell? ⟨W3.heap.size, 0, none⟩ = some (.slice ga gm gc) := by rw [← hW4]; simp
  have d1 : W4.cell? ⟨W3.heap.size, 1, none⟩ = some (.int .i64 gz) := by rw [← hW4]; simp
  have hb24 : Below W2.heap.size W2 W4 := hb3.trans (hb4.mono hb3.size)
  have e0 := (hb24.cell (Rp.cell_lt c0)).trans c0
  have e1 := (hb24.cell (Rp.cell_lt c1)).trans c1
  have HP3 : Hid (RErr2 W3 (.agg #[.slice ga gm gc, .int .i64 gz]) (errOf 2 L)) := hp3
  have HB4 : Hid (Below w.heap.size w W4) := HB2.out.trans (hb24.mono HB2.out.size)
  clear hp3 hb3 hb4 hb24 c0 c1 hb2 hW2
  go_wp2_with (go_at_call 12; refine StopQ.out ?_)
  refine ⟨Calls.mono (any_err W4 HP1.out HZ1.out) ?_⟩
  rintro e W5 ⟨rfl, hb5⟩
  have f0 := (hb5.cell (Rp.cell_lt d0)).trans d0
  have f1 := (hb5.cell (Rp.cell_lt d1)).trans d1
  have HB5 : Hid (Below w.heap.size w W5) := HB4.out.trans (hb5.mono HB4.out.size)
  clear hb5 hW4 d0 d1 e0 e1
  cases z1
  · go_wp2_with (go_at_call 12; refine StopQ.out ?_)
    refine ⟨Calls.mono (any_err W5 HP3.out HZ2.out) ?_⟩
    rintro e W6 ⟨rfl, hb6⟩
    have HB6 : Hid (Below w.heap.size w W6) := HB5.out.trans (hb6.mono HB5.out.size)
    clear hb6
    go_wp2
    go_ret
    exact ⟨rfl, HB6.out⟩
  · go_wp2
    go_ret
    exact ⟨rfl, HB5.out⟩
end Go.Proofs.YtfoodjhffehgpaaGreatDoor
end

section
/-
  DERIVED. Are two lists of nodes the same? Do elements come back as they are?
-/
namespace Go.Proofs.YtfoodjhffehgpaaGreatDoor
open Go Go.Proofs Go.RowKit
open Wk (Nd NV nds goN nxt)
open Go.Sort

/-- The same node? -/
def eqN (a b : Nd) : Bool := decide (a.t = b.t) && (decide (a.v = b.v) && (decide (a.n = b.n) && (a.s.toList == b.s.toList)))
theorem eqN_iff {a b : Nd} : eqN a b = true ↔ a = b := by
  unfold eqN
  simp only [Bool.and_eq_true, decide_eq_true_eq, beq_iff_eq]
  constructor
  · rintro ⟨h1, h2, h3, h4⟩
    obtain ⟨t, v, n, s⟩ := a
    obtain ⟨t2, v2, n2, s2⟩ := b
    simp only at h1 h2 h3 h4
    rw [ByteArray.toList_eq, ByteArray.toList_eq] at h4
    have : s = s2 := by
      apply ByteArray.ext
      exact Array.ext' h4
    subst h1 h2 h3 this
    rfl
  · rintro rfl
    exact ⟨rfl, rfl, rfl, rfl⟩
def eqL : List Nd → List Nd → Bool
  | [], [] => true
  | a :: r, b :: s => eqN a b && eqL r s
  | _, _ => false
theorem eqL_iff : ∀ (L M : List Nd), eqL L M = true ↔ L = M
  | [], [] => by simp [eqL]
  | [], _ :: _ => by simp [eqL]
  | _ :: _, [] => by simp [eqL]
  | a :: r, b :: s => by
    rw [eqL, Bool.and_eq_true, eqN_iff, eqL_iff r s]
    simp
theorem eqL_drop {L M : List Nd} {i : Nat} (h1 : i < L.length) (h2 : i < M.length) : eqL (L.drop i) (M.drop i) = (eqN (L[i]'h1) (M[i]'h2) && eqL (L.drop (i + 1)) (M.drop (i + 1))) := by
  rw [List.drop_eq_getElem_cons h1, List.drop_eq_getElem_cons h2, eqL]

set_option maxRecDepth 100000 in
set_option maxHeartbeats 1000000 in
theorem nodes_cmp (w : World) (a1 a2 : Option Addr) (n c1 c2 : Nat) (L M : List Nd) (h1 : NV w a1 n c1 L) (h2 : NV w a2 n c2 M) : Calls Tryz.prog 9 #[.slice a1 n c1, .slice a2 n c2] w fun e w' => e = .returned (.bool (eqL L M)) ∧ Below w.heap.size w w' := by
  have H1 : Hid (NV w a1 n c1 L) := h1
  have H2 : Hid (NV w a2 n c2 M) := h2
  have HN : Hid (n = L.length ∧ n = M.length) := ⟨h1.len, h2.len⟩
  obtain ⟨z, hz⟩ : ∃ z, eqL L M = z := ⟨_, rfl⟩
  have HZ : Hid (eqL L M = z) := hz
  rw [hz]
  have hsm := h1.small
  clear h1 h2 hz
  go_enter Tryz.func9, Tryz.ntmps9
  go_wp2
  go_loopw [5] (fun s5 wx => ∃ i : Nat, s5 = .int .i64 (i : Int) ∧ i ≤ n ∧ Hid (eqL (L.drop i) (M.drop i) = z) ∧ ∃ m, wx = w.drewN m) (fun s5 _ => n - (intOf s5).toNat)
  case atStart => exact ⟨0, rfl, by omega, HZ, 0, rfl⟩
  case round =>
    obtain ⟨i, rfl, hi22, HI, m, rfl⟩ := hrel
    by_cases hin : i < n
    · have hil : i < L.length := by rw [← HN.out.1]; exact hin
      have him : i < M.length := by rw [← HN.out.2]; exact hin
      obtain ⟨b1, o1, rfl, l1⟩ := H1.out.lies (by omega)
      obtain ⟨b2, o2, rfl, l2⟩ := H2.out.lies (by omega)
      obtain ⟨a0, a1, a2, a3⟩ := l1 i hil
      obtain ⟨b0, b1', b2', b3⟩ := l2 i him
      have hI : (i : Int) < (n : Int) := by omega
      have HE : Hid ((eqN (L[i]'hil) (M[i]'him) && eqL (L.drop (i + 1)) (M.drop (i + 1))) = z) := by show _ = _; rw [← eqL_drop hil him]; exact HI.out
      generalize L[i]'hil = q at a0 a1 a2 a3 HE
      generalize M[i]'him = r at b0 b1' b2' b3 HE
      clear l1 l2 HI
      by_cases hqr : q = r
      · subst hqr
        have HI2 : Hid (eqL (L.drop (i + 1)) (M.drop (i + 1)) = z) := by
          have := HE.out
          rw [eqN_iff.2 rfl, Bool.true_and] at this
          exact this
        clear HE
        go_wp2
        go_quiet (fail)
        go_wp2
        go_roundw
        case rel => exact ⟨i + 1, by go_num, by omega, HI2, _, rfl⟩
        case measure => simp [intOf]; omega
      · have hz : z = false := by
          have h1 : eqN q r = false := by
            rcases he : eqN q r with _ | _
            · rfl
            · exact absurd (eqN_iff.1 he) hqr
          have := HE.out
          rw [h1, Bool.false_and] at this
          exact this.symm
        subst hz
        have hne : eqN q r = false := by
            rcases he : eqN q r with _ | _
            · rfl
            · exact absurd (eqN_iff.1 he) hqr
        clear HE hqr
        obtain ⟨qt, qv, qn, qs⟩ := q
        obtain ⟨rt, rv, rn, rs⟩ := r
        simp only at a0 a1 a2 a3 b0 b1' b2' b3
        by_cases ht : qt = rt
        · subst ht
          by_cases hv : qv = rv
          · subst hv
            by_cases hn : qn = rn
            · subst hn
              have bs : (qs.toList == rs.toList) = false := by
                unfold eqN at hne
                simpa using hne
              clear hne
              go_wp2
              go_quiet (fail)
              go_wp2
              go_ret
              exact ⟨rfl, Wk.below_drw (Wk.below_drw (Below.refl _ _) _) _⟩
            · have bn : (qn == rn) = false := beq_eq_false_iff_ne.2 hn
              clear hne hn
              go_wp2
              go_quiet (fail)
              go_wp2
              go_ret
              exact ⟨rfl, Wk.below_drw (Wk.below_drw (Below.refl _ _) _) _⟩
          · have bv : (qv == rv) = false := beq_eq_false_iff_ne.2 hv
            clear hne hv
            go_wp2
            go_quiet (fail)
            go_wp2
            go_ret
            exact ⟨rfl, Wk.below_drw (Wk.below_drw (Below.refl _ _) _) _⟩
        · have bt : (qt == rt) = false := beq_eq_false_iff_ne.2 ht
          clear hne ht
          go_wp2
          go_quiet (fail)
          go_wp2
          go_ret
          exact ⟨rfl, Wk.below_drw (Wk.below_drw (Below.refl _ _) _) _⟩
    · obtain rfl : i = n := by omega
      have hI : ¬ (i : Int) < (i : Int) := by omega
      have hz : z = true := by
        have := HI.out
        rw [List.drop_eq_nil_of_le (by rw [← HN.out.1]; exact Nat.le_refl _), List.drop_eq_nil_of_le (by rw [← HN.out.2]; exact Nat.le_refl _)] at this
        exact this.symm
      subst hz
      go_wp2
      go_ret
      exact ⟨rfl, Wk.below_drw (Below.refl _ _) _⟩

/-- Does it come back as it is when it is laid down in Implicit? -/
def stB (M : List Nd) : Bool := (res M).2 && eqL (M.map imN) M
theorem stB_map {M : List Nd} (h : stB M = true) : M.map imN = M := by
  unfold stB at h
  rw [Bool.and_eq_true] at h
  exact (eqL_iff _ _).1 h.2
theorem own_nvi {w : World} {b m : Nat} {u : Value} {M : List Nd} (h : w.ownsRow b 48 4 u m (nds M)) (hm : m = M.length) (hl : m ≤ 4096) (hn : ∀ x ∈ M, -9223372036854775808 ≤ x.n ∧ x.n ≤ 9223372036854775807) : ∃ a c, u = .slice a m c ∧ NV w a m c M := by
  rcases h.2 with ⟨hv, he⟩ | ⟨g, c, cur, hv, -⟩
  · have e0 : m = 0 := by
      first | exact he.1 | omega | simp_all
    exact ⟨none, 0, by rw [hv, e0], hm, by omega, by omega, fun h => absurd h (by omega), hn⟩
  · subst hv
    refine ⟨_, c, rfl, hm, Wk.own_cap h, by omega, fun _ => ⟨g, 0, rfl, fun i hi => ?_⟩, hn⟩
    have hg : ∀ k, k < 4 → w.cell? ⟨g, 0 + i * 4 + k, none⟩ = ((M[i]'hi).cs)[k]? := fun k hk => by
      rw [Nat.zero_add]
      refine (World.ownsRow.cellAt h (i * 4 + k) (by omega)).trans ?_
      exact Wk.nds_get M i hi k hk
    exact ⟨hg 0 (by decide), hg 1 (by decide), hg 2 (by decide), hg 3 (by decide)⟩
theorem im_nums {L : List Nd} (h : ∀ x ∈ L, -9223372036854775808 ≤ x.n ∧ x.n ≤ 9223372036854775807) : ∀ x ∈ L.map imN, -9223372036854775808 ≤ x.n ∧ x.n ≤ 9223372036854775807 := fun x hx => by
  obtain ⟨y, hy, rfl⟩ := List.mem_map.1 hx
  have e : (imN y).n = y.n := bkN_n false y
  rw [e]
  exact h y hy
set_option maxRecDepth 100000 in
set_option maxHeartbeats 1000000 in
theorem stable_any (w : World) (a : Option Addr) (n cap : Nat) (L : List Nd) (hV : NV w a n cap L) (hT : TagsOk L) : Calls Tryz.prog 19 #[.slice a n cap] w fun e w' => e = .returned (.bool (stB L)) ∧ Below w.heap.size w w' := by
  have c7 := rimplied_any some_zero w a n cap L hV hT
  obtain ⟨z, hz⟩ : ∃ z, stB L = z := ⟨_, rfl⟩
  have HZ : Hid (stB L = z) := hz
  have HV : Hid (NV w a n cap L) := hV
  rw [hz]
  clear hV hT hz
  go_enter Tryz.func19, Tryz.ntmps19
  go_wp2_with (go_at_call 7; refine StopG.out ?_)
  refine ⟨Calls.mono c7 ?_⟩
  rintro e W1 ⟨u, vf, rfl, ho, -, hr, hb1⟩
  have HB1 : Hid (Below w.heap.size w W1) := hb1
  rcases hr with ⟨hr, rfl⟩ | ⟨hr, g, c, rfl, -⟩
  · have hout : out L = L.map imN := by
      unfold out
      rw [if_pos hr]
      rfl
    have hln : L.length = n := HV.out.len.symm
    have h40 : n ≤ 4096 := by rw [← hln]; exact (res_ok hr).1
    rw [hout] at ho
    obtain ⟨a1, c1, rfl, hN1⟩ := own_nvi ho rfl (by rw [List.length_map, hln]; exact h40) (im_nums HV.out.num)
    rw [List.length_map, hln] at hN1 ⊢
    have HN1 : Hid (NV W1 a1 n c1 (L.map imN)) := hN1
    have HNL : Hid (NV W1 a n cap L) := HV.out.on hb1
    have HZ2 : Hid (eqL (L.map imN) L = z) := by
      have := HZ.out
      unfold stB at this
      rw [hr, Bool.true_and] at this
      exact this
    clear ho hr hout hln hN1 c7 HZ
    go_wp2_with (go_at_call 12; refine StopG.out ?_)
    refine ⟨Calls.mono (any_none _) ?_⟩
    rintro e W3 ⟨rfl, hb3⟩
    have HX3 : Hid (Below W1.heap.size W1 W3) := ((Below.refl W1.heap.size W1).alloc (Nat.le_refl _) (.cells #[.slice none 0 0, .int .i64 0] 35)).trans (hb3.mono (by simp))
    have HB3 : Hid (Below w.heap.size w W3) := HB1.out.trans (HX3.out.mono HB1.out.size)
    clear hb3 hb1
    go_wp2_with (go_at_call 9; refine StopG.out ?_)
    refine ⟨Calls.mono (nodes_cmp W3 a1 a n c1 cap (L.map imN) L (HN1.out.on HX3.out) (HNL.out.on HX3.out)) ?_⟩
    rintro e W4 ⟨rfl, hb4⟩
    rw [HZ2.out]
    have HB4 : Hid (Below w.heap.size w W4) := HB3.out.trans (hb4.mono HB3.out.size)
    clear hb4
    go_wp2
    go_ret
    exact ⟨rfl, HB4.out⟩
  · obtain rfl : z = false := by
      have := HZ.out
      unfold stB at this
      rw [hr, Bool.false_and] at this
      exact this.symm
    have hfm : ∃ a1 n1 c1, u = .slice a1 n1 c1 := by
      rcases ho.2 with ⟨hv, -⟩ | ⟨g', c', cur, hv, -⟩
      · exact ⟨_, _, _, hv⟩
      · exact ⟨_, _, _, hv⟩
    obtain ⟨a1, n1, c1, rfl⟩ := hfm
    obtain ⟨W2, hW2⟩ : ∃ W2, W1.alloc (.cells #[.slice (some ⟨g, 0, none⟩) 2 c, .int .i64 5] 35) = W2 := ⟨_, rfl⟩
    have hb2 : Below W1.heap.size W1 W2 := by rw [← hW2]; exact (Below.refl _ _).alloc (Nat.le_refl _) _
    have x0 : W2.cell? ⟨W1.heap.size, 0, none⟩ = some (.slice (some ⟨g, 0, none⟩) 2 c) := by rw [← hW2]; simp
    have x1 : W2.cell? ⟨W1.heap.size, 1, none⟩ = some (.int .i64 5) := by rw [← hW2]; simp
    have HB2 : Hid (Below w.heap.size w W2) := HB1.out.trans (hb2.mono HB1.out.size)
    clear ho hr hb1 hb2 c7 HZ
    go_wp2_with (go_at_call 12; refine StopG.out ?_)
    refine ⟨Calls.mono (any_gen _ g 2 c 5 (by decide)) ?_⟩
    rintro e W3 ⟨rfl, hb3⟩
    have HB3 : Hid (Below w.heap.size w W3) := HB2.out.trans (hb3.mono HB2.out.size)
    clear hb3 hW2 x0 x1
    go_wp2
    go_ret
    exact ⟨rfl, HB3.out⟩
end Go.Proofs.YtfoodjhffehgpaaGreatDoor
end

section
/-
  DERIVED. What is laid down in any form: how long it is, how many choices were made; part by part. Plain functions.
-/
namespace Go.Proofs.YtfoodjhffehgpaaGreatDoor
open Go Go.Proofs Go.RowKit
open Wk (Nd NV goN nxt)

theorem frm_nil (ch : Nat → Bool) (st : List Nd → Bool) (f : Nat) (b x : Bool) (g q i : Nat) : frm ch st f b x g q i [] = ([], q) := by
  cases f <;> cases b <;> rfl
/-- More steps than nodes say nothing more. -/
theorem frm_fuel (ch : Nat → Bool) (st : List Nd → Bool) : ∀ (f h : Nat) (b x : Bool) (g q i : Nat) (M : List Nd), M.length ≤ f → M.length ≤ h → frm ch st f b x g q i M = frm ch st h b x g q i M
  | 0, h, b, x, g, q, i, M, hf, _ => by
    obtain rfl : M = [] := List.length_eq_zero_iff.1 (by omega)
    rw [frm_nil, frm_nil]
  | f + 1, 0, b, x, g, q, i, M, _, hh => by
    obtain rfl : M = [] := List.length_eq_zero_iff.1 (by omega)
    rw [frm_nil, frm_nil]
  | f + 1, h + 1, b, x, g, q, i, [], _, _ => by rw [frm_nil, frm_nil]
  | f + 1, h + 1, b, x, g, q, i, a :: r, hf, hh => by
    obtain ⟨l1, l2⟩ := cut_len r a.n.toNat
    simp only [List.length_cons] at hf hh
    have e1 : ∀ b x g q i, frm ch st f b x g q i (r.take (goN r a.n.toNat)) = frm ch st h b x g q i (r.take (goN r a.n.toNat)) := fun b x g q i => frm_fuel ch st f h b x g q i _ (by omega) (by omega)
    have e2 : ∀ b x g q i, frm ch st f b x g q i (r.drop (goN r a.n.toNat)) = frm ch st h b x g q i (r.drop (goN r a.n.toNat)) := fun b x g q i => frm_fuel ch st f h b x g q i _ (by omega) (by omega)
    cases b with
    | false =>
      rw [frm, frm]
      simp only [e1, e2]
    | true =>
      rw [frm, frm]
      simp only [e1, e2]
/-- All values' bytes. -/
def pvs : List Nd → Nat
  | [] => 0
  | a :: r => (pvL a.v a.s).length + pvs r
theorem pvs_cut : ∀ (M : List Nd) (j : Nat), pvs M = pvs (M.take j) + pvs (M.drop j)
  | [], j => by simp [pvs]
  | a :: M, 0 => by simp [pvs]
  | a :: M, j + 1 => by
    rw [List.take_succ_cons, List.drop_succ_cons, pvs, pvs, pvs_cut M j]
    omega
theorem pvs_sz (x : Bool) : ∀ M : List Nd, pvs M ≤ (encOf x).szP M
  | [] => Nat.le_refl _
  | a :: r => by
    have := pvs_sz x r
    rw [pvs, Enc.szP, Enc.sz1, encOf_pv]
    omega
theorem pvs_sub (L : List Nd) (i e : Nat) : pvs (sub L i e) ≤ pvs L := by
  unfold sub
  have h1 := pvs_cut (L.take e) i
  have h2 := pvs_cut L e
  omega
theorem grp_q (ch : Nat → Bool) (x : Bool) (g q i t : Nat) : q ≤ (grp ch x g q i t).2 ∧ (grp ch x g q i t).2 ≤ q + 1 := by
  unfold grp
  split
  · exact ⟨Nat.le_refl _, Nat.le_succ _⟩
  · exact ⟨Nat.le_succ _, Nat.le_refl _⟩
theorem vrP_q (ch : Nat → Bool) (x known : Bool) (v : Int) (q : Nat) : q ≤ (vrP ch x known v q).2 ∧ (vrP ch x known v q).2 ≤ q + 1 := by
  unfold vrP
  split
  · exact ⟨Nat.le_succ _, Nat.le_refl _⟩
  · exact ⟨Nat.le_refl _, Nat.le_succ _⟩
theorem vrS_q (ch : Nat → Bool) (s x known o : Bool) (q : Nat) : q ≤ (vrS ch s x known o q).2 ∧ (vrS ch s x known o q).2 ≤ q + 1 := by
  unfold vrS
  split
  · exact ⟨Nat.le_succ _, Nat.le_refl _⟩
  · exact ⟨Nat.le_refl _, Nat.le_succ _⟩
theorem frm_q (ch : Nat → Bool) (st : List Nd → Bool) : ∀ (f : Nat) (b x : Bool) (g q i : Nat) (M : List Nd), M.length ≤ f → q ≤ (frm ch st f b x g q i M).2 ∧ (frm ch st f b x g q i M).2 ≤ q + 3 * M.length
  | 0, b, x, g, q, i, M, hf => by
    obtain rfl : M = [] := List.length_eq_zero_iff.1 (by omega)
    rw [frm_nil]
    exact ⟨Nat.le_refl _, Nat.le_refl _⟩
  | f + 1, b, x, g, q, i, [], _ => by
    rw [frm_nil]
    exact ⟨Nat.le_refl _, Nat.le_refl _⟩
  | f + 1, false, x, g, q, i, a :: r, hf => by
    simp only [List.length_cons] at hf
    have hl : (r.take (goN r a.n.toNat)).length + (r.drop (goN r a.n.toNat)).length = r.length := by rw [← List.length_append, List.take_append_drop]
    have hG := grp_q ch x g q i a.t.toNat
    rw [frm]
    by_cases h18 : a.v ≠ 18
    · rw [if_pos h18]
      simp only [List.length_cons]
      have hV := vrP_q ch x (fnd a).isSome a.v (grp ch x g q i a.t.toNat).2
      have i2 := frm_q ch st f false x (a.t.toNat / 65536) (vrP ch x (fnd a).isSome a.v (grp ch x g q i a.t.toNat).2).2 (i + 1 + goN r a.n.toNat) (r.drop (goN r a.n.toNat)) (by omega)
      omega
    · rw [if_neg h18]
      simp only [List.length_cons]
      generalize hV : vrS ch (st (a :: r.take (goN r a.n.toNat))) x (fnd a).isSome (ch (grp ch x g q i a.t.toNat).2 || (!x && !(fnd a).isSome)) ((grp ch x g q i a.t.toNat).2 + 1) = V
      have hV1 := vrS_q ch (st (a :: r.take (goN r a.n.toNat))) x (fnd a).isSome (ch (grp ch x g q i a.t.toNat).2 || (!x && !(fnd a).isSome)) ((grp ch x g q i a.t.toNat).2 + 1)
      rw [hV] at hV1
      have i1 := frm_q ch st f true (x && decide (V.1 = 18)) 0 V.2 (i + 1) (r.take (goN r a.n.toNat)) (by omega)
      have i2 := frm_q ch st f false x (a.t.toNat / 65536) (frm ch st f true (x && decide (V.1 = 18)) 0 V.2 (i + 1) (r.take (goN r a.n.toNat))).2 (i + 1 + goN r a.n.toNat) (r.drop (goN r a.n.toNat)) (by omega)
      omega
  | f + 1, true, x, g, q, i, a :: r, hf => by
    simp only [List.length_cons] at hf
    have hl : (r.take (goN r a.n.toNat)).length + (r.drop (goN r a.n.toNat)).length = r.length := by rw [← List.length_append, List.take_append_drop]
    rw [frm]
    simp only [List.length_cons]
    have i1 := frm_q ch st f false x 0 q (i + 1) (r.take (goN r a.n.toNat)) (by omega)
    have i2 := frm_q ch st f true x 0 ((frm ch st f false x 0 q (i + 1) (r.take (goN r a.n.toNat))).2 + 1) (i + 1 + goN r a.n.toNat) (r.drop (goN r a.n.toNat)) (by omega)
    omega
theorem frm_len (ch : Nat → Bool) (st : List Nd → Bool) : ∀ (f : Nat) (b x : Bool) (g q i : Nat) (M : List Nd), M.length ≤ f → wf elemOk itemOk f b M → (frm ch st f b x g q i M).1.length ≤ 40 * M.length + pvs M
  | 0, b, x, g, q, i, M, hf, _ => by
    obtain rfl : M = [] := List.length_eq_zero_iff.1 (by omega)
    rw [frm_nil]
    exact Nat.zero_le _
  | f + 1, b, x, g, q, i, [], _, _ => by
    rw [frm_nil]
    exact Nat.zero_le _
  | f + 1, false, x, g, q, i, a :: r, hf, h => by
    simp only [List.length_cons] at hf
    obtain ⟨h1, h2, h3⟩ := h
    have ha : elemOk a = true := by simpa using h1
    obtain ⟨hv1, hv2, -⟩ := elem_vr ha
    have hl : (r.take (goN r a.n.toNat)).length + (r.drop (goN r a.n.toNat)).length = r.length := by rw [← List.length_append, List.take_append_drop]
    have hp := pvs_cut r (goN r a.n.toNat)
    have hG := grp_ev ch x g q i a.t.toNat
    rw [frm]
    by_cases h18 : a.v ≠ 18
    · rw [if_pos h18]
      have i2 := frm_len ch st f false x (a.t.toNat / 65536) (vrP ch x (fnd a).isSome a.v (grp ch x g q i a.t.toNat).2).2 (i + 1 + goN r a.n.toNat) (r.drop (goN r a.n.toNat)) (by omega) h3
      have e := (hzX_ev x (vrP ch x (fnd a).isSome a.v (grp ch x g q i a.t.toNat).2).1).2.2
      simp only [List.length_append, List.length_cons, pvs, hdX_len (vrP_ok ch x (fnd a).isSome a.v (grp ch x g q i a.t.toNat).2 ⟨hv1, hv2⟩).1]
      omega
    · rw [if_neg h18]
      simp only
      generalize hV : vrS ch (st (a :: r.take (goN r a.n.toNat))) x (fnd a).isSome (ch (grp ch x g q i a.t.toNat).2 || (!x && !(fnd a).isSome)) ((grp ch x g q i a.t.toNat).2 + 1) = V
      have hV1 : 1 ≤ V.1 ∧ V.1 ≤ 28 := by rw [← hV]; exact (vrS_ok _ _ _ _ _ _).1
      have i1 := frm_len ch st f true (x && decide (V.1 = 18)) 0 V.2 (i + 1) (r.take (goN r a.n.toNat)) (by omega) h2
      have i2 := frm_len ch st f false x (a.t.toNat / 65536) (frm ch st f true (x && decide (V.1 = 18)) 0 V.2 (i + 1) (r.take (goN r a.n.toNat))).2 (i + 1 + goN r a.n.toNat) (r.drop (goN r a.n.toNat)) (by omega) h3
      have e := (hzX_ev x V.1).2.2
      simp only [List.length_append, List.length_cons, pvs, hdX_len hV1]
      split <;> simp only [plL_len, List.length_nil] <;> omega
  | f + 1, true, x, g, q, i, a :: r, hf, h => by
    simp only [List.length_cons] at hf
    obtain ⟨h1, h2, h3⟩ := h
    have hl : (r.take (goN r a.n.toNat)).length + (r.drop (goN r a.n.toNat)).length = r.length := by rw [← List.length_append, List.take_append_drop]
    have hp := pvs_cut r (goN r a.n.toNat)
    rw [frm]
    simp only
    have i1 := frm_len ch st f false x 0 q (i + 1) (r.take (goN r a.n.toNat)) (by omega) h2
    have i2 := frm_len ch st f true x 0 ((frm ch st f false x 0 q (i + 1) (r.take (goN r a.n.toNat))).2 + 1) (i + 1 + goN r a.n.toNat) (r.drop (goN r a.n.toNat)) (by omega) h3
    simp only [List.length_append, List.length_cons, pvs, plL_len]
    split <;> simp only [plL_len, List.length_nil] <;> omega

theorem wf_fuel (E I : Nd → Bool) : ∀ (f g : Nat) (b : Bool) (M : List Nd), M.length ≤ f → M.length ≤ g → wf E I f b M → wf E I g b M
  | 0, g, b, M, hf, _, _ => by
    obtain rfl : M = [] := List.length_eq_zero_iff.1 (by omega)
    exact wf_nil _ _ _ _
  | f + 1, g, b, [], _, _, _ => wf_nil _ _ _ _
  | f + 1, 0, b, a :: r, _, hg, _ => by simp at hg
  | f + 1, g + 1, b, a :: r, hf, hg, h => by
    obtain ⟨h1, h2, h3⟩ := h
    obtain ⟨l1, l2⟩ := cut_len r a.n.toNat
    simp only [List.length_cons] at hf hg
    exact ⟨h1, wf_fuel E I f g _ _ (by omega) (by omega) h2, wf_fuel E I f g _ _ (by omega) (by omega) h3⟩
/-- Part of a list is a data set's level. -/
def Wf (L : List Nd) (b : Bool) (i e : Nat) : Prop := wf elemOk itemOk (sub L i e).length b (sub L i e)
theorem Wf.next {L : List Nd} {b : Bool} {i e : Nat} (h : Wf L b i e) (hlev : Lev L i e) (hi : i < e) (he : e ≤ L.length) : (if b = true then itemOk (L[i]'(by omega)) else elemOk (L[i]'(by omega))) = true ∧ Wf L (!b) (i + 1) (nxt L i) ∧ Wf L b (nxt L i) e := by
  obtain ⟨h1, h2, -, -, -⟩ := hlev.next hi he
  obtain ⟨c1, c2⟩ := sub_cut hlev hi he
  have l1 := sub_len (L := L) (i := i + 1) (e := e) he
  have l2 := sub_len (L := L) (i := i + 1) (e := nxt L i) (by omega)
  have l3 := sub_len (L := L) (i := nxt L i) (e := e) he
  unfold Wf at h ⊢
  rw [sub_cons hi he, List.length_cons] at h
  obtain ⟨g1, g2, g3⟩ := h
  rw [c1] at g2
  rw [c2] at g3
  exact ⟨g1, wf_fuel _ _ _ _ _ _ (by omega) (Nat.le_refl _) g2, wf_fuel _ _ _ _ _ _ (by omega) (Nat.le_refl _) g3⟩
/-- A part, laid down. -/
def fD (bits : Nat) (L : List Nd) (b x : Bool) (g q i e : Nat) : List UInt8 × Nat := frm (chB bits) stB (sub L i e).length b x g q i (sub L i e)
theorem fD_nil (bits : Nat) (L : List Nd) (b x : Bool) (g q i e : Nat) (h : e ≤ i) : fD bits L b x g q i e = ([], q) := by
  unfold fD
  rw [sub_nil h]
  exact frm_nil _ _ _ _ _ _ _ _
theorem nx_goN {L : List Nd} {i e : Nat} (hlev : Lev L i e) (hi : i < e) (he : e ≤ L.length) : i + 1 + goN (sub L (i + 1) e) (L[i]'(by omega)).n.toNat = nxt L i := by
  obtain ⟨h1, h2, -, -, -⟩ := hlev.next hi he
  obtain ⟨c1, -⟩ := sub_cut hlev hi he
  have l1 := congrArg List.length c1
  rw [List.length_take, sub_len (by omega), sub_len (by omega)] at l1
  have l3 := Wk.goN_le (sub L (i + 1) e) (L[i]'(by omega)).n.toNat
  rw [sub_len (by omega)] at l3
  omega
theorem fD_elem {bits : Nat} {L : List Nd} {x : Bool} {g q i e : Nat} (hlev : Lev L i e) (hi : i < e) (he : e ≤ L.length) (h18 : (L[i]'(by omega)).v ≠ 18) {a : Nd} (ha : L[i]'(by omega) = a) {G : List UInt8 × Nat} (hG : grp (chB bits) x g q i a.t.toNat = G) {V : Int × Nat} (hV : vrP (chB bits) x (fnd a).isSome a.v G.2 = V) :
    fD bits L false x g q i e = (G.1 ++ (hdX x a.t.toNat V.1 (pvL a.v a.s).length ++ pvL a.v a.s) ++ (fD bits L false x (a.t.toNat / 65536) V.2 (nxt L i) e).1, (fD bits L false x (a.t.toNat / 65536) V.2 (nxt L i) e).2) := by
  obtain ⟨h1, h2, -, -, -⟩ := hlev.next hi he
  obtain ⟨c1, c2⟩ := sub_cut hlev hi he
  have hn := nx_goN hlev hi he
  have l1 := sub_len (L := L) (i := i + 1) (e := e) he
  have l3 := sub_len (L := L) (i := nxt L i) (e := e) he
  subst ha hG hV
  unfold fD
  rw [sub_cons hi he, List.length_cons, frm, if_pos h18]
  simp only [c2, hn]
  rw [frm_fuel (chB bits) stB (sub L (i + 1) e).length (sub L (nxt L i) e).length false x _ _ _ (sub L (nxt L i) e) (by omega) (Nat.le_refl _)]
theorem fD_seq {bits : Nat} {L : List Nd} {x : Bool} {g q i e : Nat} (hlev : Lev L i e) (hi : i < e) (he : e ≤ L.length) (h18 : (L[i]'(by omega)).v = 18) {a : Nd} (ha : L[i]'(by omega) = a) {G : List UInt8 × Nat} (hG : grp (chB bits) x g q i a.t.toNat = G) {o : Bool} (ho : (chB bits G.2 || (!x && !(fnd a).isSome)) = o) {V : Int × Nat} (hV : vrS (chB bits) (stB (sub L i (nxt L i))) x (fnd a).isSome o (G.2 + 1) = V) {I : List UInt8 × Nat} (hI : fD bits L true (x && decide (V.1 = 18)) 0 V.2 (i + 1) (nxt L i) = I) :
    fD bits L false x g q i e = (G.1 ++ (hdX x a.t.toNat V.1 (if o = true then 4294967295 else I.1.length) ++ (I.1 ++ (if o = true then plL 4294893789 0 else []))) ++ (fD bits L false x (a.t.toNat / 65536) I.2 (nxt L i) e).1, (fD bits L false x (a.t.toNat / 65536) I.2 (nxt L i) e).2) := by
  obtain ⟨h1, h2, -, -, -⟩ := hlev.next hi he
  obtain ⟨c1, c2⟩ := sub_cut hlev hi he
  have hn := nx_goN hlev hi he
  have l1 := sub_len (L := L) (i := i + 1) (e := e) he
  have l2 := sub_len (L := L) (i := i + 1) (e := nxt L i) (by omega)
  have l3 := sub_len (L := L) (i := nxt L i) (e := e) he
  have hs : sub L i (nxt L i) = L[i]'(by omega) :: sub L (i + 1) (nxt L i) := sub_cons h2 (by omega)
  subst ha hG ho
  rw [hs] at hV
  subst hV hI
  unfold fD
  rw [sub_cons hi he, List.length_cons, frm, if_neg (by simpa using h18)]
  simp only [c1, c2, hn]
  rw [frm_fuel (chB bits) stB (sub L (i + 1) e).length (sub L (i + 1) (nxt L i)).length true _ _ _ _ (sub L (i + 1) (nxt L i)) (by omega) (Nat.le_refl _), frm_fuel (chB bits) stB (sub L (i + 1) e).length (sub L (nxt L i) e).length false x _ _ _ (sub L (nxt L i) e) (by omega) (Nat.le_refl _)]
theorem fD_item {bits : Nat} {L : List Nd} {x : Bool} {g q i e : Nat} (hlev : Lev L i e) (hi : i < e) (he : e ≤ L.length) {I : List UInt8 × Nat} (hI : fD bits L false x 0 q (i + 1) (nxt L i) = I) {o : Bool} (ho : chB bits I.2 = o) :
    fD bits L true x g q i e = ((plL 4294893568 (if o = true then 4294967295 else I.1.length) ++ (I.1 ++ (if o = true then plL 4294893581 0 else []))) ++ (fD bits L true x 0 (I.2 + 1) (nxt L i) e).1, (fD bits L true x 0 (I.2 + 1) (nxt L i) e).2) := by
  obtain ⟨h1, h2, -, -, -⟩ := hlev.next hi he
  obtain ⟨c1, c2⟩ := sub_cut hlev hi he
  have hn := nx_goN hlev hi he
  have l1 := sub_len (L := L) (i := i + 1) (e := e) he
  have l2 := sub_len (L := L) (i := i + 1) (e := nxt L i) (by omega)
  have l3 := sub_len (L := L) (i := nxt L i) (e := e) he
  subst hI ho
  unfold fD
  rw [sub_cons hi he, List.length_cons, frm]
  simp only [c1, c2, hn]
  rw [frm_fuel (chB bits) stB (sub L (i + 1) e).length (sub L (i + 1) (nxt L i)).length false _ _ _ _ (sub L (i + 1) (nxt L i)) (by omega) (Nat.le_refl _), frm_fuel (chB bits) stB (sub L (i + 1) e).length (sub L (nxt L i) e).length true x _ _ _ (sub L (nxt L i) e) (by omega) (Nat.le_refl _)]
theorem fD_bounds {bits : Nat} {L : List Nd} {b x : Bool} {g q i e : Nat} (he : e ≤ L.length) (hw : Wf L b i e) : (fD bits L b x g q i e).1.length ≤ 40 * (e - i) + pvs L ∧ q ≤ (fD bits L b x g q i e).2 ∧ (fD bits L b x g q i e).2 ≤ q + 3 * (e - i) := by
  have h1 := frm_len (chB bits) stB (sub L i e).length b x g q i (sub L i e) (Nat.le_refl _) hw
  have h2 := frm_q (chB bits) stB (sub L i e).length b x g q i (sub L i e) (Nat.le_refl _)
  have h3 := pvs_sub L i e
  rw [sub_len he] at h1 h2
  unfold fD
  rw [sub_len he]
  exact ⟨by omega, h2.1, h2.2⟩
end Go.Proofs.YtfoodjhffehgpaaGreatDoor
end

section
/-
  DERIVED. Items laid down in any form: the law's own function.
-/
namespace Go.Proofs.YtfoodjhffehgpaaGreatDoor
open Go Go.Proofs Go.RowKit
open Wk (Nd NV goN nxt)

/-- A list that is laid down, beside the choices. -/
structure Lz (b off n cap : Nat) (L : List Nd) (cb : Nat) (W : World) : Prop where
  nv : NV W (some ⟨b, off, none⟩) n cap L
  lt : b < W.heap.size
  ne : b ≠ cb
  tg : TagsOk L
  gd : Good L
  n40 : n ≤ 4096
  pv : pvs L ≤ 1048576
theorem Lz.bk {b off n cap cb base : Nat} {L : List Nd} {W W' : World} (h : Lz b off n cap L cb W) (hb : Bk base cb W W') (hl : b < base) : Lz b off n cap L cb W' := ⟨NV.blk h.nv (hb.b b hl h.ne), Nat.lt_of_lt_of_le h.lt hb.size, h.ne, h.tg, h.gd, h.n40, h.pv⟩
/-- What is told. -/
def FdP (W : World) (cb bits : Nat) (Y : List UInt8) (q : Nat) (r : Ending) (W' : World) : Prop := ∃ u, r = .returned u ∧ Hid (Ob W.heap.size W' u Y) ∧ Hid (Cq W' cb bits q) ∧ Hid (Bk W.heap.size cb W W')
def ElC (m : Nat) : Prop := ∀ (W : World) (b off n cap : Nat) (L : List Nd) (x : Bool) (i e cb bits q : Nat), e - i ≤ m → Lz b off n cap L cb W → Cq W cb bits q → bits < 18446744073709551616 → q + 3 * (e - i) ≤ 900000 → i ≤ e → e ≤ n → Lev L i e → Wf L false i e →
  Calls Tryz.prog 6 #[.pointer (some ⟨cb, 0, none⟩), .slice (some ⟨b, off, none⟩) n cap, .int .i64 (i : Int), .int .i64 (e : Int), .bool x] W (FdP W cb bits (fD bits L false x 0 q i e).1 (fD bits L false x 0 q i e).2)
/-- With the mark. -/
def mkO (o : Bool) : List UInt8 := if o = true then plL 4294893789 0 else []
def SqC (m : Nat) : Prop := ∀ (W : World) (b off n cap : Nat) (L : List Nd) (x o : Bool) (i e cb bits q : Nat), e - i ≤ m → Lz b off n cap L cb W → Cq W cb bits q → bits < 18446744073709551616 → q + 3 * (e - i) ≤ 900000 → i ≤ e → e ≤ n → Lev L i e → Wf L true i e →
  Calls Tryz.prog 20 #[.pointer (some ⟨cb, 0, none⟩), .slice (some ⟨b, off, none⟩) n cap, .int .i64 (i : Int), .int .i64 (e : Int), .bool x, .bool o] W (FdP W cb bits ((fD bits L true x 0 q i e).1 ++ mkO o) (fD bits L true x 0 q i e).2)
/-- Bytes that are our own, behind bytes that are our own. -/
theorem ob_form {base : Nat} {W : World} {u : Value} {ys : List UInt8} (h : Ob base W u ys) : (u = .slice none 0 0 ∧ ys = []) ∨ ∃ g c, u = .slice (some ⟨g, 0, none⟩) ys.length c ∧ ∀ j v, (bvs ys)[j]? = some v → W.cell? ((⟨g, 0, none⟩ : Addr).add j) = some v := by
  have h0 : W.ownsRow base 5 1 u ys.length (bvs ys) := h
  rcases h0.2 with ⟨hv, he⟩ | ⟨g, c, cur, hv, -⟩
  · left
    refine ⟨hv, ?_⟩
    have e0 : ys.length = 0 := by
      subst hv
      first | exact he | exact he.1 | (have := congrArg List.length he; rw [bvs_len] at this; simpa using this) | omega | simp_all
    exact List.length_eq_zero_iff.1 e0
  · right
    subst hv
    refine ⟨g, c, rfl, fun j v hj => ?_⟩
    have hjl : j < (bvs ys).length := (List.getElem?_eq_some_iff.1 hj).1
    have hadd : (⟨g, 0, none⟩ : Addr).add j = ⟨g, j, none⟩ := by
      unfold Addr.add
      by_cases hz : j = 0
      · rw [if_pos hz, hz]
      · rw [if_neg hz, Nat.zero_add]
    rw [hadd]
    exact (World.ownsRow.cellAt h0 j (by rw [bvs_len] at hjl; omega)).trans hj

end Go.Proofs.YtfoodjhffehgpaaGreatDoor
end
