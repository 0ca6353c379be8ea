import Derived.Test.YtddbdipgmdmkpaaT
import Derived.Test.YtddbdipgmdmkpaaW
import Derived.WalkSmall
import Derived.WalkSmall
import Derived.WalkSmall
import Derived.WalkSmall
/-
  DERIVED. The law of the table.
-/
namespace Go.Proofs.Ytddbdipgmdmkpaa
open Go Go.RowKit Go.Shelf
attribute [local go_sem] Oper.semAt_some

theorem entries17 (w : World) : Calls Try.prog 17 #[] w fun e w' => e = .returned (.func (.func 24) #[] #[]) ∧ w = w' := by
  go_enter Try.func17, Try.ntmps17
  go_wp2
  go_ret
  exact ⟨rfl, rfl⟩

/-- A frame of 44 slots by its slots. -/
theorem frame44 (t : Array Value) (h : t.size = 44) : ∃ u : Nat → Value, (∀ n, u n = t.toList.getD n undef) ∧ t = #[u 0, u 1, u 2, u 3, u 4, u 5, u 6, u 7, u 8, u 9, u 10, u 11, u 12, u 13, u 14, u 15, u 16, u 17, u 18, u 19, u 20, u 21, u 22, u 23, u 24, u 25, u 26, u 27, u 28, u 29, u 30, u 31, u 32, u 33, u 34, u 35, u 36, u 37, u 38, u 39, u 40, u 41, u 42, u 43] := by
  obtain ⟨l⟩ := t
  have hl : l.length = 44 := by simpa using h
  refine ⟨fun n => l.getD n undef, fun n => rfl, ?_⟩
  have e := Go.Deep.map_by_index l undef id
  rw [hl] at e
  have e2 : l = (List.range 44).map fun i => l.getD i undef := by simpa using e
  conv => lhs; rw [e2]
  rfl

/-- The document's list lies there. -/
def Want (g : Nat) (V : World) : Prop := ∀ n r, (upTo 10)[n]? = some r → ∀ j, j < 6 → V.cell? ⟨g, n * 6 + j, none⟩ = r.ec[j]?

/-- All blocks but one lie as they lay. -/
def Kept (b : Nat) (A V : World) : Prop := A.heap.size ≤ V.heap.size ∧ ∀ j, j < A.heap.size → j ≠ b → V.heap[j]? = A.heap[j]?
theorem Kept.refl (b : Nat) (A : World) : Kept b A A := ⟨Nat.le_refl _, fun _ _ _ => rfl⟩
theorem Kept.cell {b : Nat} {A V : World} {p : Addr} {v : Value} (h : Kept b A V) (hp : p.block ≠ b) (hc : A.cell? p = some v) : V.cell? p = some v := (World.cell?_of_block (h.2 p.block (cell_lt hc) hp)).trans hc
theorem Kept.frozen {b : Nat} {A V : World} {p : Addr} {v : Value} (h : Kept b A V) (hp : p.block ≠ b) (hc : A.cell? p = some v) : V.frozen? p = A.frozen? p := World.frozen?_of_block (h.2 p.block (cell_lt hc) hp)
theorem Kept.grown {b : Nat} {A V V' : World} {row : Option Nat} (h : Kept b A V) (hg : V.grownBy V' row) (hr : ∀ r, row = some r → A.heap.size ≤ r ∨ r = b) : Kept b A V' :=
  ⟨Nat.le_trans h.1 hg.size, fun j hj hne => (hg.block j (Nat.lt_of_lt_of_le hj h.1) (fun e => by rcases hr j e.symm with h | h <;> omega)).trans (h.2 j hj hne)⟩
theorem Kept.marks {n₀ : Nat} {A0 A V : World} {ds : List Deferred} (h : Kept A0.heap.size A V) (hb : Below A0.heap.size A0 A) (hm : Marks n₀ ds A0) : Marks n₀ ds V := by
  refine hm.keep fun d hd D e => ?_
  obtain ⟨D', e', _, hlt⟩ := hm.mem d hd
  obtain rfl : D' = D := by rw [e] at e'; simpa using e'.symm
  exact (h.2 D' (Nat.lt_of_lt_of_le hlt hb.size) (by omega)).trans (hb.block D' hlt)
theorem Kept.want {b g : Nat} {A V : World} (h : Kept b A V) (hg : g ≠ b) (hw : Want g A) : Want g V := fun n r hn j hj => by
  have h1 := hw n r hn j hj
  obtain ⟨v, hv⟩ : ∃ v, r.ec[j]? = some v := ⟨r.ec[j]'(by simp [Row.ec]; omega), by simp⟩
  rw [hv] at h1 ⊢
  exact h.cell hg h1

/-- A store below, behind draws. -/
theorem stay_set {s b : Nat} (h : b < s) (X : World) (v : Value) (n : Nat) : Stay s X ((X.drewN n).setCell ⟨b, 0, none⟩ v) :=
  ⟨by simp, fun j hj _ => Below.heap_setCell _ _ _ j (by simp; omega)⟩

/-- How many goings through are left. -/
def leftL (a : Act) (V : World) : Nat := match a.tmps.toList.getD 2 undef with
  | .pointer (some p) => (match V.cell? p with
    | some (.int _ k) => 2 - k.toNat
    | _ => 0)
  | _ => 0
theorem leftL_eq {a : Act} {V : World} {p : Addr} {k : Nat} (h : a.tmps.toList.getD 2 undef = .pointer (some p)) (hc : V.cell? p = some (.int .i64 (k : Int))) : leftL a V = 2 - k := by
  unfold leftL
  rw [h]
  simp [hc]

/-- Between two goings through. -/
def InvL (w : World) (Bw g cp : Nat) (a : Act) (V : World) : Prop :=
  ∃ k Br : Nat, k ≤ 2 ∧ a.tmps.size = 44 ∧ a.tmps.toList.getD 0 undef = .pointer (some ⟨w.heap.size, 0, none⟩) ∧ a.tmps.toList.getD 1 undef = .pointer (some ⟨Bw, 0, none⟩) ∧ a.tmps.toList.getD 2 undef = .pointer (some ⟨Br, 0, none⟩) ∧
    V.cell? ⟨w.heap.size, 0, none⟩ = some (.bool false) ∧ V.frozen? ⟨w.heap.size, 0, none⟩ = false ∧ V.cell? ⟨Bw, 0, none⟩ = some (.slice (some ⟨g, 0, none⟩) 253 cp) ∧ V.cell? ⟨Br, 0, none⟩ = some (.int .i64 (k : Int)) ∧ V.frozen? ⟨Br, 0, none⟩ = false ∧
    Br ≠ w.heap.size ∧ Br ≠ Bw ∧ Br ≠ g ∧ w.heap.size ≤ Br ∧ Want g V ∧ Below w.heap.size w V ∧ Marks (w.heap.size + 1) a.defers V

set_option maxRecDepth 100000 in
set_option maxHeartbeats 4000000 in
theorem table_any (w : World) : Calls Try.prog 4 #[] w fun e w' => e = .returned (.bool true) ∧ Below w.heap.size w w' := by
  refine (callsIn_wide (n := 0)).1 ?_
  have c16 := fun W => entries_any W
  refine callsIn_of_wp_marks Try.func4 rfl trivial ?_ rfl
  simp only [Try.ntmps4, List.size_toArray, List.length_nil, Nat.reduceSub, Array.replicate_succ, Array.replicate_zero, List.push_toArray, List.append_toArray, List.nil_append, List.cons_append]
  gi_wp2_with (refine ⟨trivial, ?_⟩; (try refine ⟨rfl, ?_⟩); gi_at_call 16; refine (callsIn_wide.2 (c16 _)).mono ?_; rintro e W1 ⟨ao, cp, rfl, ho, hb1⟩)
  clear c16
  obtain ⟨g, rfl, hgb, hwant⟩ : ∃ g, ao = some ⟨g, 0, none⟩ ∧ (w.alloc (.cells #[.bool false] 4)).heap.size ≤ g ∧ Want g W1 ∧ g < W1.heap.size := by
    rcases ho.2 with ⟨_, h⟩ | ⟨g, cap, cur, e, hg, hc, _⟩
    · cases h
    · obtain ⟨rfl, rfl⟩ : ao = some ⟨g, 0, none⟩ ∧ cp = cap := by simpa using e
      refine ⟨g, rfl, hg, fun n r hn j hj => ?_, (Array.getElem?_eq_some_iff.1 hc).1⟩
      have hlt : n < 253 := by
        have := (List.getElem?_eq_some_iff.1 hn).1
        rwa [up_len] at this
      rw [ho.cellAt (n * 6 + j) (by omega), both_tables, Nat.mul_comm]
      exact ec_get _ n r hn j hj
  obtain ⟨hwant, hgW⟩ := hwant
  simp only [World.size_alloc] at hgb hb1
  have hr0 : W1.cell? ⟨w.heap.size, 0, none⟩ = some (.bool false) := (hb1.cell (p := ⟨w.heap.size, 0, none⟩) (by simp)).trans (by simp)
  have hr1 : W1.frozen? ⟨w.heap.size, 0, none⟩ = false := (hb1.frozen (p := ⟨w.heap.size, 0, none⟩) (by simp)).trans (by simp)
  have hB1 : Below w.heap.size w W1 := ((Below.refl _ w).alloc (Nat.le_refl _) _).trans (hb1.mono (by omega))
  clear ho hb1
  have hlt1 : w.heap.size < W1.heap.size := cell_lt hr0
  have e17 := fun W => entries17 W
  refine wpIn_loop (InvL w W1.heap.size g cp) leftL ?_ ?_
  · have hb : Below W1.heap.size W1 ((W1.alloc (.cells #[.slice (some ⟨g, 0, none⟩) 253 cp] 38)).alloc (.cells #[.int .i64 0] 3)) := ((Below.refl _ _).alloc (Nat.le_refl _) _).alloc (by simp) _
    refine ⟨0, W1.heap.size + 1, by omega, rfl, rfl, rfl, rfl, (hb.cell (p := ⟨w.heap.size, 0, none⟩) hlt1).trans hr0, (hb.frozen (p := ⟨w.heap.size, 0, none⟩) hlt1).trans hr1, by simp, by simp, by simp, by omega, by omega, by omega, by omega, ?_, hB1.trans (hb.mono (by omega)), trivial⟩
    intro n r hn j hj
    exact (hb.cell (p := ⟨g, n * 6 + j, none⟩) hgW).trans (hwant n r hn j hj)
  · rintro ⟨t, ds⟩ wr ⟨k, Br, hk, hz, e0, e1, e2, q0, q1, q2, q3, q4, n0, n1, n2, n3, hw, hB, hM⟩
    generalize W1.heap.size = Bw at *
    have hmeas : leftL { tmps := t, defers := ds } wr = 2 - k := leftL_eq e2 q3
    obtain ⟨u, hu, ht⟩ := frame44 t hz
    have e0' : u 0 = .pointer (some ⟨w.heap.size, 0, none⟩) := (hu 0).trans e0
    have e1' : u 1 = .pointer (some ⟨Bw, 0, none⟩) := (hu 1).trans e1
    have e2' : u 2 = .pointer (some ⟨Br, 0, none⟩) := (hu 2).trans e2
    rw [e0', e1', e2'] at ht
    rw [hmeas]
    subst ht
    clear hz e0 e1 e2 e0' e1' e2' hu hmeas hr0 hr1 hB1 hwant hgW
    generalize u 3 = u3
    generalize u 4 = u4
    generalize u 5 = u5
    generalize u 6 = u6
    generalize u 7 = u7
    generalize u 8 = u8
    generalize u 9 = u9
    generalize u 10 = u10
    generalize u 11 = u11
    generalize u 12 = u12
    generalize u 13 = u13
    generalize u 14 = u14
    generalize u 15 = u15
    generalize u 16 = u16
    generalize u 17 = u17
    generalize u 18 = u18
    generalize u 19 = u19
    generalize u 20 = u20
    generalize u 21 = u21
    generalize u 22 = u22
    generalize u 23 = u23
    generalize u 24 = u24
    generalize u 25 = u25
    generalize u 26 = u26
    generalize u 27 = u27
    generalize u 28 = u28
    generalize u 29 = u29
    generalize u 30 = u30
    generalize u 31 = u31
    generalize u 32 = u32
    generalize u 33 = u33
    generalize u 34 = u34
    generalize u 35 = u35
    generalize u 36 = u36
    generalize u 37 = u37
    generalize u 38 = u38
    generalize u 39 = u39
    generalize u 40 = u40
    generalize u 41 = u41
    generalize u 42 = u42
    generalize u 43 = u43
    by_cases hlt : k < 2
    · have hkI : decide ((k : Int) < 2) = true := by simp; omega
      gi_wp2_with (refine ⟨trivial, ?_⟩; (try refine ⟨rfl, ?_⟩); gi_at_call 17; refine (callsIn_wide.2 (e17 _)).mono ?_; rintro e W9 ⟨rfl, rfl⟩)
      obtain ⟨ba, hba⟩ : ∃ ba, wr.heap.size = ba := ⟨_, rfl⟩
      obtain ⟨wi, hwi⟩ : ∃ wi, wr.alloc (.cells #[.int .i64 0] 3) = wi := ⟨_, rfl⟩
      have hbi : Below wr.heap.size wr wi := hwi ▸ (Below.refl _ _).alloc (Nat.le_refl _) _
      have hsi : wi.heap.size = ba + 1 := by rw [← hwi, ← hba]; simp
      have i0 : wi.cell? ⟨w.heap.size, 0, none⟩ = some (.bool false) := (hbi.cell (p := ⟨w.heap.size, 0, none⟩) (cell_lt q0)).trans q0
      have i1 : wi.frozen? ⟨w.heap.size, 0, none⟩ = false := (hbi.frozen (p := ⟨w.heap.size, 0, none⟩) (cell_lt q0)).trans q1
      have i2 : wi.cell? ⟨Bw, 0, none⟩ = some (.slice (some ⟨g, 0, none⟩) 253 cp) := (hbi.cell (p := ⟨Bw, 0, none⟩) (cell_lt q2)).trans q2
      have i3 : wi.cell? ⟨Br, 0, none⟩ = some (.int .i64 (k : Int)) := (hbi.cell (p := ⟨Br, 0, none⟩) (cell_lt q3)).trans q3
      have i4 : wi.frozen? ⟨Br, 0, none⟩ = false := (hbi.frozen (p := ⟨Br, 0, none⟩) (cell_lt q3)).trans q4
      have i5 : wi.cell? ⟨ba, 0, none⟩ = some (.int .i64 0) := by rw [← hwi, ← hba]; simp
      have i6 : wi.frozen? ⟨ba, 0, none⟩ = false := by rw [← hwi, ← hba]; simp
      have m0 : w.heap.size < ba := hba ▸ cell_lt q0
      have m1 : Bw < ba := hba ▸ cell_lt q2
      have m2 : Br < ba := hba ▸ cell_lt q3
      have iw : Want g wi ∧ g < ba := by
        obtain ⟨r, hr⟩ : ∃ r, (upTo 10)[0]? = some r := ⟨_, List.getElem?_eq_getElem (by rw [up_len]; omega)⟩
        have hg0 : g < wr.heap.size := cell_lt ((hw 0 r hr 0 (by omega)).trans (show r.ec[0]? = some (.int .u32 (r.t : Int)) from rfl))
        exact ⟨fun n r hn j hj => (hbi.cell (p := ⟨g, n * 6 + j, none⟩) hg0).trans (hw n r hn j hj), hba ▸ hg0⟩
      have iB : Below w.heap.size w wi := hB.trans (hbi.mono (by omega))
      rw [hwi, hba]
      clear q0 q1 q2 q3 q4 hw hB
      refine loop_tells (gf := 24) (lb := #[]) rfl (enters_of Try.func24 (by kernel_rfl) rfl) (entries1_tells ba wi (by omega)) (fun _ => rfl)
        (fun pre X => (k = 0 → pre.length < 7) ∧ X.cell? ⟨ba, 0, none⟩ = some (.int .i64 (pre.length : Int)) ∧ X.frozen? ⟨ba, 0, none⟩ = false ∧ Kept ba wi X ∧ Below w.heap.size w X)
        (fun c pre X => (c = .ret ∧ ¬ pre <+: upTo 10) ∨ (k = 0 ∧ c = .exit 2 ∧ X.cell? ⟨ba, 0, none⟩ = some (.int .i64 7) ∧ X.frozen? ⟨ba, 0, none⟩ = false ∧ Kept ba wi X ∧ Below w.heap.size w X))
        (fun pre A A' row hs hg hr => ⟨hs.1, cell_kept hs.2.1 hg (fun r e => (hr r e).2), (frozen_kept hs.2.1 hg (fun r e => (hr r e).2)).trans hs.2.2.1, hs.2.2.2.1.grown hg (fun r e => .inl (hr r e).1), ownFrom_below (β := Unit) (Nat.le_refl _) (by omega) () A A' row hs.2.2.2.2 hg hr⟩)
        (fun c pre A A' row hs hg hr => by
          rcases hs with hs | ⟨h1, h2, h3, h4, h5, h6⟩
          · exact .inl hs
          · exact .inr ⟨h1, h2, cell_kept h3 hg (fun r e => (hr r e).2), (frozen_kept h3 hg (fun r e => (hr r e).2)).trans h4, h5.grown hg (fun r e => .inl (hr r e).1), ownFrom_below (β := Unit) (Nat.le_refl _) (by omega) () A A' row h6 hg hr⟩)
        ⟨fun _ => by simp, i5, i6, Kept.refl _ _, iB⟩
        (fun x a' V => ∃ Bx, V.cell? ⟨Bx, 0, none⟩ = some (.int .u32 (x.t : Int)) ∧ V.cell? ⟨Bx, 1, none⟩ = some (.int .u32 (maskN x.t : Nat)) ∧ V.cell? ⟨Bx, 2, none⟩ = some (.int .i64 x.v) ∧ V.cell? ⟨Bx, 3, none⟩ = some (.string x.s) ∧ V.cell? ⟨Bx, 4, none⟩ = some (.int .i64 x.l) ∧ V.cell? ⟨Bx, 5, none⟩ = some (.int .i64 x.m) ∧
          a' = { tmps := #[.pointer (some ⟨w.heap.size, 0, none⟩), .pointer (some ⟨Bw, 0, none⟩), .pointer (some ⟨Br, 0, none⟩), .pointer (some ⟨ba, 0, none⟩), .pointer (some ⟨Bx, 0, none⟩), u5, .int .i64 (k : Int), .bool true, u8, u9, .func (.func 24) #[] #[], x.ent, u12, u13, u14, u15, u16, u17, u18, u19, u20, u21, u22, u23, u24, u25, u26, u27, u28, u29, u30, u31, u32, u33, u34, u35, u36, u37, u38, u39, u40, u41, u42, u43], defers := [] })
        (fun x a' _ A A' row hs hg hr => by
          obtain ⟨Bx, h0, h1, h2, h3, h4, h5, h6⟩ := hs
          exact ⟨Bx, cell_kept h0 hg (fun r e => (hr r e).2), cell_kept h1 hg (fun r e => (hr r e).2), cell_kept h2 hg (fun r e => (hr r e).2), cell_kept h3 hg (fun r e => (hr r e).2), cell_kept h4 hg (fun r e => (hr r e).2), cell_kept h5 hg (fun r e => (hr r e).2), h6⟩)
        ?assign ?body ?done ?stop
      case assign =>
        rintro l' pre x V K ⟨j1, j2, j3, j4, j5⟩ hK
        unfold Row.ent
        gi_wp2
        have hbV : Below V.heap.size V (V.alloc (.cells #[.int .u32 (x.t : Int), .int .u32 (maskN x.t : Nat), .int .i64 x.v, .string x.s, .int .i64 x.l, .int .i64 x.m] 44)) := (Below.refl _ _).alloc (Nat.le_refl _) _
        refine hK _ _ (Stay.of_below hbV) (kept_below 0 _ hbV).2 ⟨j1, (hbV.cell (p := ⟨ba, 0, none⟩) (cell_lt j2)).trans j2, (hbV.frozen (p := ⟨ba, 0, none⟩) (cell_lt j2)).trans j3, j4.grown (grownBy_of_below hbV) (fun r e => by cases e), j5.trans (hbV.mono j5.size)⟩ ⟨V.heap.size, by simp, by simp, by simp, by simp, by simp, by simp, rfl⟩
      case body =>
        rintro l' pre x a' X ⟨j1, j2, j3, j4, j5⟩ ⟨Bx, r0, r1, r2, r3, r4, r5, rfl⟩ hlen
        rw [up_len] at hlen
        obtain ⟨n, hn⟩ : ∃ n, pre.length = n := ⟨_, rfl⟩
        obtain ⟨r, hr⟩ : ∃ r, (upTo 10)[n]? = some r := ⟨_, List.getElem?_eq_getElem (by rw [up_len]; omega)⟩
        have jw := j4.want (by omega) iw.1
        have w0 : X.cell? ⟨g, n * 6, none⟩ = some (.int .u32 (r.t : Int)) := jw n r hr 0 (by omega)
        have w1 : X.cell? ⟨g, n * 6 + 1, none⟩ = some (.int .u32 (maskN r.t : Nat)) := jw n r hr 1 (by omega)
        have w2 : X.cell? ⟨g, n * 6 + 2, none⟩ = some (.int .i64 r.v) := jw n r hr 2 (by omega)
        have w3 : X.cell? ⟨g, n * 6 + 3, none⟩ = some (.string r.s) := jw n r hr 3 (by omega)
        have w4 : X.cell? ⟨g, n * 6 + 4, none⟩ = some (.int .i64 r.l) := jw n r hr 4 (by omega)
        have w5 : X.cell? ⟨g, n * 6 + 5, none⟩ = some (.int .i64 r.m) := jw n r hr 5 (by omega)
        have x2 : X.cell? ⟨Bw, 0, none⟩ = some (.slice (some ⟨g, 0, none⟩) 253 cp) := j4.cell (by simp; omega) i2
        have x3 : X.cell? ⟨Br, 0, none⟩ = some (.int .i64 (k : Int)) := j4.cell (by simp; omega) i3
        rw [hn] at j2 hlen
        have hge : decide ((253 : Int) ≤ (n : Int)) = false := by simp; omega
        have hnI : (n : Int) < 253 := by omega
        have x0 : X.cell? ⟨w.heap.size, 0, none⟩ = some (.bool false) := j4.cell (by simp; omega) i0
        have x1 : X.frozen? ⟨w.heap.size, 0, none⟩ = false := (j4.frozen (by simp; omega) i0).trans i1
        unfold Row.ent
        by_cases hx : x = r
        · subst hx
          have hlen1 : (pre ++ [x]).length = n + 1 := by simp [hn]
          have fin : ∀ nq, (KeepsFrom wi.heap.size X ((X.drewN nq).setCell ⟨ba, 0, none⟩ (.int .i64 ((n : Int) + 1))) ∧ KC ba X ((X.drewN nq).setCell ⟨ba, 0, none⟩ (.int .i64 ((n : Int) + 1)))) ∧ Stay wi.heap.size X ((X.drewN nq).setCell ⟨ba, 0, none⟩ (.int .i64 ((n : Int) + 1))) ∧
              ((X.drewN nq).setCell ⟨ba, 0, none⟩ (.int .i64 ((n : Int) + 1))).cell? ⟨ba, 0, none⟩ = some (.int .i64 ((n : Int) + 1)) ∧ ((X.drewN nq).setCell ⟨ba, 0, none⟩ (.int .i64 ((n : Int) + 1))).frozen? ⟨ba, 0, none⟩ = false ∧ Kept ba wi ((X.drewN nq).setCell ⟨ba, 0, none⟩ (.int .i64 ((n : Int) + 1))) ∧ Below w.heap.size w ((X.drewN nq).setCell ⟨ba, 0, none⟩ (.int .i64 ((n : Int) + 1))) := fun nq => by
            have hh : ∀ j, j ≠ ba → ((X.drewN nq).setCell ⟨ba, 0, none⟩ (.int .i64 ((n : Int) + 1))).heap[j]? = X.heap[j]? := fun j hj => Below.heap_setCell _ _ _ j (fun e => hj (by simpa using e))
            have hsz : X.heap.size ≤ ((X.drewN nq).setCell ⟨ba, 0, none⟩ (.int .i64 ((n : Int) + 1))).heap.size := by simp
            have hcc : (X.drewN nq).cell? ⟨ba, 0, none⟩ = some (.int .i64 (n : Int)) := j2
            refine ⟨⟨⟨hsz, fun j o hj ho _ => (hh j (by omega)).trans ho⟩, ⟨hsz, fun j o ho _ hne => (hh j hne).trans ho⟩⟩, ⟨hsz, fun j hj _ => hh j (by omega)⟩, cell_set_eq hcc, by rw [World.frozen?_setCell]; exact j3, ⟨Nat.le_trans j4.1 hsz, fun j hj hne => (hh j hne).trans (j4.2 j hj hne)⟩, (below_drewN j5 nq).setCell (p := ⟨ba, 0, none⟩) (by simp; omega) _⟩
          by_cases hk0 : k = 0
          · have hkE : ((k : Int) == 0) = true := by simp; omega
            have hn7 := j1 hk0
            by_cases h7 : n + 1 = 7
            · have h7E : ((n : Int) + 1 == 7) = true := by simp; omega
              have h7F : (n : Int) + 1 = 7 := by omega
              gi_wp2
              refine quiet_round l' (by kernel_rfl) (by kernel_rfl) (by kernel_rfl) ?_
              repeat (quiet_step_in (fail))
              refine wpQuietIn_nil ?_
              intro _ hw'
              obtain ⟨nq, rfl⟩ := hw'
              obtain ⟨⟨f1, f2⟩, f3, f4, f5, f6, f7⟩ := fin nq
              clear fin
              have y3 : ((X.drewN nq).setCell ⟨ba, 0, none⟩ (.int .i64 ((n : Int) + 1))).cell? ⟨Br, 0, none⟩ = some (.int .i64 (k : Int)) := f6.cell (by simp; omega) i3
              rw [h7F] at f3 f4 f5 f6 f7 y3
              gi_wp2
              exact ⟨f3, .inr ⟨hk0, rfl, f4, f5, f6, f7⟩⟩
            · have h7E : ((n : Int) + 1 == 7) = false := by simp; omega
              have h7F : ¬ (n : Int) + 1 = 7 := by omega
              gi_wp2
              refine quiet_round l' (by kernel_rfl) (by kernel_rfl) (by kernel_rfl) ?_
              repeat (quiet_step_in (fail))
              refine wpQuietIn_nil ?_
              intro _ hw'
              obtain ⟨nq, rfl⟩ := hw'
              obtain ⟨⟨f1, f2⟩, f3, f4, f5, f6, f7⟩ := fin nq
              clear fin
              have y3 : ((X.drewN nq).setCell ⟨ba, 0, none⟩ (.int .i64 ((n : Int) + 1))).cell? ⟨Br, 0, none⟩ = some (.int .i64 (k : Int)) := f6.cell (by simp; omega) i3
              gi_wp2
              exact ⟨f1, f2, fun _ => by omega, by rw [hlen1]; simpa using f4, f5, f6, f7⟩
          · have hkE : ((k : Int) == 0) = false := by simp; omega
            gi_wp2
            refine quiet_round l' (by kernel_rfl) (by kernel_rfl) (by kernel_rfl) ?_
            repeat (quiet_step_in (fail))
            refine wpQuietIn_nil ?_
            intro _ hw'
            obtain ⟨nq, rfl⟩ := hw'
            obtain ⟨⟨f1, f2⟩, f3, f4, f5, f6, f7⟩ := fin nq
            clear fin
            have y3 : ((X.drewN nq).setCell ⟨ba, 0, none⟩ (.int .i64 ((n : Int) + 1))).cell? ⟨Br, 0, none⟩ = some (.int .i64 (k : Int)) := f6.cell (by simp; omega) i3
            gi_wp2
            exact ⟨f1, f2, fun h => absurd h hk0, by rw [hlen1]; simpa using f4, f5, f6, f7⟩
        · have hne : x.t ≠ r.t ∨ (x.t = r.t ∧ x.v ≠ r.v) ∨ (x.t = r.t ∧ x.v = r.v ∧ x.s ≠ r.s) ∨ (x.t = r.t ∧ x.v = r.v ∧ x.s = r.s ∧ x.l ≠ r.l) ∨ (x.t = r.t ∧ x.v = r.v ∧ x.s = r.s ∧ x.l = r.l ∧ x.m ≠ r.m) := by
            by_cases h1 : x.t = r.t
            · by_cases h2 : x.v = r.v
              · by_cases h3 : x.s = r.s
                · by_cases h4 : x.l = r.l
                  · by_cases h5 : x.m = r.m
                    · exact absurd (by cases x; cases r; simp at h1 h2 h3 h4 h5; simp [h1, h2, h3, h4, h5]) hx
                    · exact .inr (.inr (.inr (.inr ⟨h1, h2, h3, h4, h5⟩)))
                  · exact .inr (.inr (.inr (.inl ⟨h1, h2, h3, h4⟩)))
                · exact .inr (.inr (.inl ⟨h1, h2, h3⟩))
              · exact .inr (.inl ⟨h1, h2⟩)
            · exact .inl h1
          have hpre : ¬ (pre ++ [x] <+: upTo 10) := by
            rintro ⟨l, hl⟩
            have h1 : (pre ++ [x] ++ l)[n]? = some x := by simp [← hn]
            rw [hl, hr] at h1
            exact hx (by simpa using h1.symm)
          rcases hne with h1 | ⟨h1, h2⟩ | ⟨h1, h2, h3⟩ | ⟨h1, h2, h3, h4⟩ | ⟨h1, h2, h3, h4, h5⟩
          · have h1I : ((x.t : Int) == (r.t : Int)) = false := by simp; omega
            have h1J : ¬ (x.t : Int) = (r.t : Int) := by omega
            gi_wp2
            refine quiet_round l' (by kernel_rfl) (by kernel_rfl) (by kernel_rfl) ?_
            repeat (quiet_step_in (fail))
            refine wpQuietIn_nil ?_
            intro _ hw'
            obtain ⟨nq, rfl⟩ := hw'
            gi_wp2
            exact ⟨stay_set (by omega) _ _ nq, .inl ⟨rfl, hpre⟩⟩
          · have hI : (x.v == r.v) = false := by simpa using h2
            rw [h1]
            rw [h1] at r0 r1
            gi_wp2
            refine quiet_round l' (by kernel_rfl) (by kernel_rfl) (by kernel_rfl) ?_
            repeat (quiet_step_in (fail))
            refine wpQuietIn_nil ?_
            intro _ hw'
            obtain ⟨nq, rfl⟩ := hw'
            gi_wp2
            exact ⟨stay_set (by omega) _ _ nq, .inl ⟨rfl, hpre⟩⟩
          · have hJ : ¬ x.s.toList = r.s.toList := fun e => h3 (by rw [ByteArray.toList_eq, ByteArray.toList_eq] at e; cases hx1 : x.s; cases hr1 : r.s; rw [hx1, hr1] at e; congr; exact Array.toList_inj.1 e)
            have hI : (x.s.toList == r.s.toList) = false := by simpa using hJ
            rw [h1, h2]
            rw [h1] at r0 r1
            rw [h2] at r2
            gi_wp2
            refine quiet_round l' (by kernel_rfl) (by kernel_rfl) (by kernel_rfl) ?_
            repeat (quiet_step_in (fail))
            refine wpQuietIn_nil ?_
            intro _ hw'
            obtain ⟨nq, rfl⟩ := hw'
            gi_wp2
            exact ⟨stay_set (by omega) _ _ nq, .inl ⟨rfl, hpre⟩⟩
          · have hI : (x.l == r.l) = false := by simpa using h4
            rw [h1, h2, h3]
            rw [h1] at r0 r1
            rw [h2] at r2
            rw [h3] at r3
            gi_wp2
            refine quiet_round l' (by kernel_rfl) (by kernel_rfl) (by kernel_rfl) ?_
            repeat (quiet_step_in (fail))
            refine wpQuietIn_nil ?_
            intro _ hw'
            obtain ⟨nq, rfl⟩ := hw'
            gi_wp2
            exact ⟨stay_set (by omega) _ _ nq, .inl ⟨rfl, hpre⟩⟩
          · have hI : (x.m == r.m) = false := by simpa using h5
            rw [h1, h2, h3, h4]
            rw [h1] at r0 r1
            rw [h2] at r2
            rw [h3] at r3
            rw [h4] at r4
            gi_wp2
            refine quiet_round l' (by kernel_rfl) (by kernel_rfl) (by kernel_rfl) ?_
            repeat (quiet_step_in (fail))
            refine wpQuietIn_nil ?_
            intro _ hw'
            obtain ⟨nq, rfl⟩ := hw'
            gi_wp2
            exact ⟨stay_set (by omega) _ _ nq, .inl ⟨rfl, hpre⟩⟩
      case done =>
        rintro D X hD ⟨j1, j2, j3, j4, j5⟩ hK
        rw [up_len] at j1 j2
        have hk1 : k = 1 := by
          by_cases h : k = 0
          · have := j1 h; omega
          · omega
        have hkE : ((k : Int) == 1) = true := by simp; omega
        have x0 : X.cell? ⟨w.heap.size, 0, none⟩ = some (.bool false) := j4.cell (by simp; omega) i0
        have x1 : X.frozen? ⟨w.heap.size, 0, none⟩ = false := (j4.frozen (by simp; omega) i0).trans i1
        have x2 : X.cell? ⟨Bw, 0, none⟩ = some (.slice (some ⟨g, 0, none⟩) 253 cp) := j4.cell (by simp; omega) i2
        have x3 : X.cell? ⟨Br, 0, none⟩ = some (.int .i64 (k : Int)) := j4.cell (by simp; omega) i3
        have xw := j4.want (by omega) iw.1
        have xM : Marks (w.heap.size + 1) ds X := by rw [← hba] at j4; exact j4.marks hbi hM
        have j2' : X.cell? ⟨ba, 0, none⟩ = some (.int .i64 253) := j2
        clear j2
        gi_wp2
        have hbX : Below X.heap.size X (X.alloc (.cells #[.int .i64 2] 3)) := (Below.refl _ _).alloc (Nat.le_refl _) _
        have hX : ba < X.heap.size := cell_lt j2'
        refine ⟨⟨2, X.heap.size, by omega, rfl, rfl, rfl, rfl, (hbX.cell (p := ⟨w.heap.size, 0, none⟩) (cell_lt x0)).trans x0, (hbX.frozen (p := ⟨w.heap.size, 0, none⟩) (cell_lt x0)).trans x1, (hbX.cell (p := ⟨Bw, 0, none⟩) (cell_lt x2)).trans x2, by simp, by simp, by omega, by omega, by have := iw.2; omega, by omega, fun n r hn j hj => (hbX.cell (p := ⟨g, n * 6 + j, none⟩) (by have := iw.2; simp; omega)).trans (xw n r hn j hj), j5.trans (hbX.mono j5.size),
          ⟨D, rfl, by omega, (hbX.block D (Array.getElem?_eq_some_iff.1 hK).1).trans hK, fun d hd => by obtain ⟨D', e, _, hlt⟩ := hM.mem d hd; exact ⟨D', e, by omega⟩, xM.below hbX⟩⟩, ?_⟩
        rw [leftL_eq (k := 2) (p := ⟨X.heap.size, 0, none⟩) rfl (by simp)]
        omega
      case stop =>
        rintro D c pre X hD hpre (⟨rfl, hno⟩ | ⟨hk0, rfl, j2', j3, j4, j5⟩) hK
        · exact absurd hpre hno
        have hkE : ((k : Int) == 1) = false := by simp; omega
        have x0 : X.cell? ⟨w.heap.size, 0, none⟩ = some (.bool false) := j4.cell (by simp; omega) i0
        have x1 : X.frozen? ⟨w.heap.size, 0, none⟩ = false := (j4.frozen (by simp; omega) i0).trans i1
        have x2 : X.cell? ⟨Bw, 0, none⟩ = some (.slice (some ⟨g, 0, none⟩) 253 cp) := j4.cell (by simp; omega) i2
        have x3 : X.cell? ⟨Br, 0, none⟩ = some (.int .i64 (k : Int)) := j4.cell (by simp; omega) i3
        have xw := j4.want (by omega) iw.1
        have xM : Marks (w.heap.size + 1) ds X := by rw [← hba] at j4; exact j4.marks hbi hM
        obtain rfl : k = 0 := hk0
        gi_wp2
        have hbX : Below X.heap.size X (X.alloc (.cells #[.int .i64 1] 3)) := (Below.refl _ _).alloc (Nat.le_refl _) _
        have hX : ba < X.heap.size := cell_lt j2'
        refine ⟨⟨1, X.heap.size, by omega, rfl, rfl, rfl, rfl, (hbX.cell (p := ⟨w.heap.size, 0, none⟩) (cell_lt x0)).trans x0, (hbX.frozen (p := ⟨w.heap.size, 0, none⟩) (cell_lt x0)).trans x1, (hbX.cell (p := ⟨Bw, 0, none⟩) (cell_lt x2)).trans x2, by simp, by simp, by omega, by omega, by have := iw.2; omega, by omega, fun n r hn j hj => (hbX.cell (p := ⟨g, n * 6 + j, none⟩) (by have := iw.2; simp; omega)).trans (xw n r hn j hj), j5.trans (hbX.mono j5.size),
          ⟨D, rfl, by omega, (hbX.block D (Array.getElem?_eq_some_iff.1 hK).1).trans hK, fun d hd => by obtain ⟨D', e, _, hlt⟩ := hM.mem d hd; exact ⟨D', e, by omega⟩, xM.below hbX⟩⟩, ?_⟩
        rw [leftL_eq (k := 1) (p := ⟨X.heap.size, 0, none⟩) rfl (by simp)]
        omega
    · obtain rfl : k = 2 := by omega
      gi_wp2
      have hlt0 : w.heap.size < wr.heap.size := cell_lt q0
      refine leaves_keep (n₀ := w.heap.size + 1) (Z := fun V => V.cell? ⟨w.heap.size, 0, none⟩ = some (.bool true) ∧ Below w.heap.size w V)
        (fun V D o hz hD ho hc => ⟨cell_kept hz.1 (grownBy_putObj' V D _) (fun r e => by cases e; exact ⟨o, ho, hc⟩), hz.2.grown (grownBy_putObj' V D _) hz.2.size (fun r e => by cases e; omega)⟩)
        ds _ (hM.keep fun d hd D e => ?_) ⟨cell_set_eq q0, hB.setCell (p := ⟨w.heap.size, 0, none⟩) (Nat.le_refl _) _⟩ ?_
      · obtain ⟨D', e', h1, _⟩ := hM.mem d hd
        obtain rfl : D' = D := by rw [e] at e'; simpa using e'.symm
        exact Below.heap_setCell _ _ _ _ (by simp; omega)
      · rintro W' ⟨hc, hb⟩
        exact ⟨.bool true, by simp [results, Try.results4, go_sem, hc], rfl, hb⟩
end Go.Proofs.Ytddbdipgmdmkpaa
