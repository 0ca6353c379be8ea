import Derived.Test.YtoikdpjjcnmgeaaGreatDoorBn
import Derived.Test.YtoikdpjjcnmgeaaGreatDoorBs
import Derived.Test.YtoikdpjjcnmgeaaGreatDoorDc
import Derived.Lib.QuietBelow
import Derived.Test.YtoikdpjjcnmgeaaGreatDoorId
import Derived.ChangeArms
import Derived.SizedLaws
import Derived.OpenShut
import Derived.Test.YtoikdpjjcnmgeaaGreatDoorBk
import Derived.Test.YtoikdpjjcnmgeaaGreatDoorQc
import Derived.Test.YtoikdpjjcnmgeaaGreatDoorRT
import Derived.Laws.AppendOwnNone
import Derived.Deep.RegionHeld3
section
/-
  DERIVED. May it be laid down in both syntaxes? The law's own look.
-/
namespace Go.Proofs.YtoikdpjjcnmgeaaGreatDoor
open Go Go.Proofs Go.RowKit
open Wk (Nd NV nds)
open Go.Sort

theorem some_zero : SomeC 0 :=
  some_step 0 (by decide) fun _ => some_step 1 (by decide) fun _ => some_step 2 (by decide) fun _ => some_step 3 (by decide) fun _ => some_step 4 (by decide) fun h => absurd h (by decide)
set_option maxRecDepth 100000 in
theorem any_gen (w : World) (g m cap : Nat) (c : Int) (hc : c ≠ 0) : Calls Tryz.prog 26 #[.agg #[.slice (some ⟨g, 0, none⟩) m cap, .int .i64 c]] w fun e w' => e = .returned (.bool true) ∧ Below w.heap.size w w' := by
  have b : (c != 0) = true := bne_iff_ne.2 hc
  clear hc
  go_enter Tryz.func26, Tryz.ntmps26
  go_wp2
  go_ret
  exact ⟨rfl, (Below.refl _ _).alloc (Nat.le_refl _) _⟩
theorem err_c {s : Int} {L : List Nd} {ls : List Lk} {c : Int} (h : errOf s L = some (ls, c)) : c ≠ 0 := by
  unfold errOf at h
  split at h
  · cases h; decide
  · split at h
    · cases h; decide
    · split at h
      · cases h; decide
      · cases h
/-- Is a fault told? -/
theorem any_err (w : World) {w0 : World} {v : Value} {s : Int} {L : List Nd} {z : Bool} (h : RErr2 w0 v (errOf s L)) (hz : (errOf s L).isSome = z) : Calls Tryz.prog 26 #[v] w fun e w' => e = .returned (.bool z) ∧ Below w.heap.size w w' := by
  subst hz
  rcases h with ⟨h, rfl⟩ | ⟨ls, c, g, cg, h, rfl, -⟩
  · rw [h]; exact any_none w
  · have := err_c h
    rw [h]
    exact any_gen w g _ cg c this
theorem rerr_form {w : World} {v : Value} {o : Option (List Lk × Int)} (h : RErr2 w v o) : ∃ (a : Option Addr) (m c : Nat) (z : Int), v = .agg #[.slice a m c, .int .i64 z] := by
  rcases h with ⟨-, rfl⟩ | ⟨ls, c, g, cg, -, rfl, -⟩
  · exact ⟨_, _, _, _, rfl⟩
  · exact ⟨_, _, _, _, rfl⟩

set_option maxRecDepth 100000 in
set_option maxHeartbeats 4000000 in
theorem short_any (w : World) (a : Option Addr) (n cap : Nat) (L : List Nd) (hV : NV w a n cap L) (hT : TagsOk L) (z1 z2 : Bool) (hz1 : (errOf 1 L).isSome = z1) (hz2 : (errOf 2 L).isSome = z2) : Calls Tryz.prog 19 #[.slice a n cap] w fun e w' => e = .returned (.bool (!z1 && !z2)) ∧ Below w.heap.size w w' := by
  have HZ1 : Hid ((errOf 1 L).isSome = z1) := hz1
  have HZ2 : Hid ((errOf 2 L).isSome = z2) := hz2
  clear hz1 hz2
  have HV : Hid (NV w a n cap L) := hV
  have HT : Hid (TagsOk L) := hT
  clear hV hT
  go_enter Tryz.func19, Tryz.ntmps19
  go_wp2_with (go_at_call 25; refine StopQ.out ?_)
  refine ⟨Calls.mono (rsize_any some_zero w a n cap L HV.out HT.out 1) ?_⟩
  rintro e W1 ⟨vf, rfl, hp1, hb1⟩
  obtain ⟨fa, fm, fc, fz, hvf⟩ := rerr_form hp1
  subst hvf
  have HP1 : Hid (RErr2 W1 (.agg #[.slice fa fm fc, .int .i64 fz]) (errOf 1 L)) := hp1
  have HB1 : Hid (Below w.heap.size w W1) := hb1
  clear hp1 hb1
  go_wp2_with (go_at_call 25; refine StopQ.out ?_)
  obtain ⟨W2, hW2⟩ : ∃ W2, W1.alloc (.cells #[.slice fa fm fc, .int .i64 fz] 32) = W2 := ⟨_, rfl⟩
  have hb2 : Below W1.heap.size W1 W2 := by rw [← hW2]; exact (Below.refl _ _).alloc (Nat.le_refl _) _
  have c0 : W2.cell? ⟨W1.heap.size, 0, none⟩ = some (.slice fa fm fc) := by rw [← hW2]; simp
  have c1 : W2.cell? ⟨W1.heap.size, 1, none⟩ = some (.int .i64 fz) := by rw [← hW2]; simp
  rw [hW2]
  have HB2 : Hid (Below w.heap.size w W2) := HB1.out.trans (hb2.mono HB1.out.size)
  have HVT : Hid (NV W2 a n cap L ∧ TagsOk L) := ⟨HV.out.on (HB2.out), HT.out⟩
  refine ⟨Calls.mono (rsize_any some_zero W2 a n cap L HVT.out.1 HVT.out.2 2) ?_⟩
  rintro e W3 ⟨vf, rfl, hp3, hb3⟩
  obtain ⟨ga, gm, gc, gz, hvf⟩ := rerr_form hp3
  subst hvf
  obtain ⟨W4, hW4⟩ : ∃ W4, W3.alloc (.cells #[.slice ga gm gc, .int .i64 gz] 32) = W4 := ⟨_, rfl⟩
  have hb4 : Below W3.heap.size W3 W4 := by rw [← hW4]; exact (Below.refl _ _).alloc (Nat.le_refl _) _
  have d0 : W4.cell? ⟨W3.heap.size, 0, none⟩ = some (.slice ga gm gc) := by rw [← hW4]; simp
  have d1 : W4.cell? ⟨W3.heap.size, 1, none⟩ = some (.int .i64 gz) := by rw [← hW4]; simp
  have hb24 : Below W2.heap.size W2 W4 := hb3.trans (hb4.mono hb3.size)
  have e0 := (hb24.cell (Rp.cell_lt c0)).trans c0
  have e1 := (hb24.cell (Rp.cell_lt c1)).trans c1
  have HP3 : Hid (RErr2 W3 (.agg #[.slice ga gm gc, .int .i64 gz]) (errOf 2 L)) := hp3
  have HB4 : Hid (Below w.heap.size w W4) := HB2.out.trans (hb24.mono HB2.out.size)
  clear hp3 hb3 hb4 hb24 c0 c1 hb2 hW2
  go_wp2_with (go_at_call 26; refine StopQ.out ?_)
  refine ⟨Calls.mono (any_err W4 HP1.out HZ1.out) ?_⟩
  rintro e W5 ⟨rfl, hb5⟩
  have f0 := (hb5.cell (Rp.cell_lt d0)).trans d0
  have f1 := (hb5.cell (Rp.cell_lt d1)).trans d1
  have HB5 : Hid (Below w.heap.size w W5) := HB4.out.trans (hb5.mono HB4.out.size)
  clear hb5 hW4 d0 d1 e0 e1
  cases z1
  · go_wp2_with (go_at_call 26; refine StopQ.out ?_)
    refine ⟨Calls.mono (any_err W5 HP3.out HZ2.out) ?_⟩
    rintro e W6 ⟨rfl, hb6⟩
    have HB6 : Hid (Below w.heap.size w W6) := HB5.out.trans (hb6.mono HB5.out.size)
    clear hb6
    go_wp2
    go_ret
    exact ⟨rfl, HB6.out⟩
  · go_wp2
    go_ret
    exact ⟨rfl, HB5.out⟩
end Go.Proofs.YtoikdpjjcnmgeaaGreatDoor
end

section
/-
  DERIVED. DatasetTwo.
-/
namespace Go.Proofs.YtoikdpjjcnmgeaaGreatDoor
open Go Go.Proofs Go.RowKit
open Wk (Nd NV nds)
open Go.Sort

theorem find_q (W : World) (q : Nd) (h0 : 0 ≤ q.t) (h1 : q.t < 4294967296) (k : Bool) (hk : (fnd q).isSome = k) : Calls Tryz.prog 21 #[.int .u32 q.t] W fun e w' => ∃ a0 a1 a2 a3 a4 a5, e = .returned (.tuple #[.agg #[.int .u32 a0, .int .u32 a1, .int .i64 a2, .string a3, .int .i64 a4, .int .i64 a5], .bool k]) ∧ Below W.heap.size W w' := by
  have h := Tb.rfind_any W q.t.toNat (by omega)
  rw [show ((q.t.toNat : Nat) : Int) = q.t by omega] at h
  refine h.mono ?_
  rintro e w' ⟨rfl, hb⟩
  exact ⟨_, _, _, _, _, _, by rw [← hk]; rfl, hb⟩
theorem im_is {q : Nd} (h : (fnd q).isSome = true ∨ q.v = 18 ∨ q.v = 29) : imN q = q := by
  unfold imN
  rw [if_pos (by rcases h with h | h | h; exact .inr (.inr h); exact .inr (.inl h); exact .inl h)]
theorem bk_id (L : List Nd) : L.map (bkN true) = L := List.map_id _

set_option maxRecDepth 100000 in
set_option maxHeartbeats 8000000 in
theorem two_law (w : World) (a : Option Addr) (n cap : Nat) (L : List Nd) (hV : NV w a n cap L) (hT : TagsOk L) (hE : EG w) : Calls Tryz.prog 4 #[.slice a n cap] w fun e w' => e = .returned (.bool true) ∧ Below w.heap.size w w' := by
  have HV : Hid (NV w a n cap L) := hV
  have HT : Hid (TagsOk L) := hT
  have HE : Hid (EG w) := hE
  obtain ⟨z1, hz1⟩ : ∃ z, (errOf 1 L).isSome = z := ⟨_, rfl⟩
  obtain ⟨z2, hz2⟩ : ∃ z, (errOf 2 L).isSome = z := ⟨_, rfl⟩
  have HZ : Hid ((errOf 1 L).isSome = z1 ∧ (errOf 2 L).isSome = z2) := ⟨hz1, hz2⟩
  clear hV hT hE hz1 hz2
  go_enter Tryz.func4, Tryz.ntmps4
  go_wp2_with (go_at_call 18; refine StopQ.out ?_)
  refine ⟨Calls.mono (alive_any w HE.out) ?_⟩
  rintro e W1 ⟨rfl, hb1⟩
  have HB1 : Hid (Below w.heap.size w W1) := hb1
  clear hb1
  go_wp2_with (go_at_call 19; refine StopQ.out ?_)
  refine ⟨Calls.mono (short_any W1 a n cap L (HV.out.on HB1.out) HT.out z1 z2 HZ.out.1 HZ.out.2) ?_⟩
  rintro e W2 ⟨rfl, hb2⟩
  have HB2 : Hid (Below w.heap.size w W2) := HB1.out.trans (hb2.mono HB1.out.size)
  clear hb2
  rcases hq : (!z1 && !z2) with _ | _
  · go_wp2
    go_ret
    exact ⟨rfl, HB2.out⟩
  obtain ⟨rfl, rfl⟩ : z1 = false ∧ z2 = false := by cases z1 <;> cases z2 <;> simp_all
  have HO : Hid (errOf 1 L = none ∧ errOf 2 L = none) := ⟨by simpa using HZ.out.1, by simpa using HZ.out.2⟩
  clear hq HZ
  go_wp2_with (go_at_call 20; refine StopQ.out ?_)
  refine ⟨Calls.mono (enc_ok W2 a n cap L (HV.out.on HB2.out) HT.out (HE.out.keep HB2.out) 2 HO.out.2) ?_⟩
  rintro e W3 ⟨a3, c3, rfl, hB3, hb3⟩
  have HB3 : Hid (Below w.heap.size w W3) := HB2.out.trans (hb3.out.mono HB2.out.size)
  have HOK2 : Hid (OkD 2 (outB 2 L) L) := by
    have := back_ok HO.out.2 HT.out
    rw [show decide ((2 : Int) = 2) = true from rfl, bk_id] at this
    exact this
  go_wp2_with (go_at_call 10; refine StopQ.out ?_)
  refine ⟨Calls.mono (dec_ok W3 a3 _ c3 (outB 2 L) 2 L hB3.out HOK2.out) ?_⟩
  rintro e W4 ⟨a4, c4, rfl, hN4, hb4⟩
  have HB4 : Hid (Below w.heap.size w W4) := HB3.out.trans (hb4.out.mono HB3.out.size)
  clear hB3 hb3 hb4
  go_wp2_with (go_at_call 20; refine StopQ.out ?_)
  refine ⟨Calls.mono (enc_ok W4 a4 _ c4 L hN4.out HT.out (HE.out.keep HB4.out) 1 HO.out.1) ?_⟩
  rintro e W5 ⟨a5, c5, rfl, hB5, hb5⟩
  have HB5 : Hid (Below w.heap.size w W5) := HB4.out.trans (hb5.out.mono HB4.out.size)
  obtain ⟨M, hM⟩ : ∃ M, L.map (bkN false) = M := ⟨_, rfl⟩
  have hml : M.length = L.length := by rw [← hM, List.length_map]
  have HM : Hid (∀ i (h : i < L.length) (h' : i < M.length), M[i]'h' = imN (L[i]'h)) := by
    subst hM
    intro i h h'
    rw [List.getElem_map]
    rfl
  have HOK1 : Hid (OkD 1 (outB 1 L) M) := by
    have := back_ok HO.out.1 HT.out
    rw [show decide ((1 : Int) = 2) = false from rfl, hM] at this
    exact this
  clear hM
  go_wp2_with (go_at_call 10; refine StopQ.out ?_)
  refine ⟨Calls.mono (dec_ok W5 a5 _ c5 (outB 1 L) 1 M hB5.out HOK1.out) ?_⟩
  rintro e W6 ⟨a6, c6, rfl, hN6, hb6⟩
  have HB6 : Hid (Below w.heap.size w W6) := HB5.out.trans (hb6.out.mono HB5.out.size)
  have hnl := HV.out.len
  have HL : Hid (n = L.length ∧ M.length = n ∧ n ≤ 3518437208780) := ⟨hnl, by omega, HV.out.small⟩
  have hmn : M.length = n := by omega
  rw [hmn] at hN6 ⊢
  have HVW : Hid (NV W6 a n cap L) := HV.out.on HB6.out
  have HN6 : Hid (NV W6 a6 n c6 M) := hN6
  have hsm := HV.out.small
  clear hB5 hb5 hb6 hN4 hN6 hnl hml hmn
  go_wp2
  go_loopw [8] (fun x8 wr => ∃ i : Nat, x8 = .int .i64 (i : Int) ∧ i ≤ n ∧ Hid (Below W6.heap.size W6 wr)) (fun x8 _ => n - (intOf x8).toNat)
  case atStart => exact ⟨0, rfl, by omega, Below.refl _ _⟩
  case round =>
    obtain ⟨i, rfl, hi22, HBR⟩ := hrel
    by_cases hin : i < n
    · have hil : i < L.length := by rw [← HL.out.1]; exact hin
      have him : i < M.length := by rw [HL.out.2.1]; exact hin
      obtain ⟨b1, o1, hr1, l1⟩ := (HVW.out.on HBR.out).lies (by omega)
      obtain ⟨b2, o2, hr2, l2⟩ := (HN6.out.on HBR.out).lies (by omega)
      subst hr1 hr2
      have hy := HM.out i hil him
      have N1 := l1 i hil
      have N2 := l2 i him
      have hTq := HT.out _ (List.getElem_mem hil)
      rw [hy] at N2
      have hI : (i : Int) < (n : Int) := by omega
      generalize L[i]'hil = q at N1 N2 hTq
      obtain ⟨k, hk⟩ : ∃ k, (fnd q).isSome = k := ⟨_, rfl⟩
      have HK : Hid ((fnd q).isSome = k ∧ 0 ≤ q.t ∧ q.t < 4294967296) := ⟨hk, hTq⟩
      have HN1 : Hid _ := N1
      have HN2 : Hid _ := N2
      obtain ⟨q0, -, -, -⟩ := N1
      clear l1 l2 hy N2 hTq hk
      go_wp2_with (go_at_call 21; refine StopQ.out ?_)
      refine ⟨Calls.mono (find_q _ q HK.out.2.1 HK.out.2.2 k HK.out.1) ?_⟩
      rintro e W7 ⟨e0, e1, e2, e3, e4, e5, rfl, hb7⟩
      obtain ⟨W8, hW8⟩ : ∃ W8, W7.alloc (.cells #[.int .u32 e0, .int .u32 e1, .int .i64 e2, .string e3, .int .i64 e4, .int .i64 e5] 50) = W8 := ⟨_, rfl⟩
      have hb8 := hb7.trans (((Below.refl W7.heap.size W7).alloc (Nat.le_refl _) (.cells #[.int .u32 e0, .int .u32 e1, .int .i64 e2, .string e3, .int .i64 e4, .int .i64 e5] 50)).mono hb7.size)
      rw [hW8] at hb8
      have HX8 : Hid (Below W6.heap.size W6 W8) := HBR.out.trans (hb8.mono HBR.out.size)
      obtain ⟨x0, x1, x2, x3⟩ := HN1.out
      obtain ⟨y0, y1, y2, y3⟩ := HN2.out
      have x0 := (hb8.cell (Rp.cell_lt x0)).trans x0
      have x1 := (hb8.cell (Rp.cell_lt x1)).trans x1
      have x2 := (hb8.cell (Rp.cell_lt x2)).trans x2
      have x3 := (hb8.cell (Rp.cell_lt x3)).trans x3
      have y0 := (hb8.cell (Rp.cell_lt y0)).trans y0
      have y1 := (hb8.cell (Rp.cell_lt y1)).trans y1
      have y2 := (hb8.cell (Rp.cell_lt y2)).trans y2
      have y3 := (hb8.cell (Rp.cell_lt y3)).trans y3
      have hkk := HK.out.1
      have ht2 : (imN q).t = q.t := bkN_t false q
      have hn2 : (imN q).n = q.n := bkN_n false q
      rw [ht2] at y0
      rw [hn2] at y2
      clear hb8 hb7 HN1 HN2 HK q0 ht2 hn2
      cases k with
      | true =>
        rw [im_is (.inl hkk)] at y1 y3
        clear hkk
        go_wp2
        go_quiet (fail)
        go_wp2
        go_roundw
        case rel => exact ⟨i + 1, by go_num, by omega, Wk.below_drw HX8.out _⟩
        case measure => simp [intOf]; omega
      | false =>
        by_cases h18 : q.v = 18
        · rw [im_is (.inr (.inl h18))] at y1 y3
          rw [h18] at x1 y1
          clear hkk h18
          go_wp2
          go_quiet (fail)
          go_wp2
          go_roundw
          case rel => exact ⟨i + 1, by go_num, by omega, Wk.below_drw HX8.out _⟩
          case measure => simp [intOf]; omega
        · by_cases h29 : q.v = 29
          · rw [im_is (.inr (.inr h29))] at y1 y3
            rw [h29] at x1 y1
            clear hkk h29 h18
            go_wp2
            go_quiet (fail)
            go_wp2
            go_roundw
            case rel => exact ⟨i + 1, by go_num, by omega, Wk.below_drw HX8.out _⟩
            case measure => simp [intOf]; omega
          · have b18 : (q.v == 18) = false := beq_eq_false_iff_ne.2 h18
            have b29 : (q.v == 29) = false := beq_eq_false_iff_ne.2 h29
            clear hkk h29 h18 y1 y3
            go_wp2
            go_quiet (fail)
            go_wp2
            go_roundw
            case rel => exact ⟨i + 1, by go_num, by omega, Wk.below_drw HX8.out _⟩
            case measure => simp [intOf]; omega
    · obtain rfl : i = n := by omega
      have hI : ¬ (i : Int) < (i : Int) := by omega
      go_wp2
      go_ret
      exact ⟨rfl, HB6.out.trans (HBR.out.mono HB6.out.size)⟩
end Go.Proofs.YtoikdpjjcnmgeaaGreatDoor
end

section
/-
  DERIVED. Nodes that came in, read.
-/
namespace Go.Proofs.YtoikdpjjcnmgeaaGreatDoor
open Go Go.Proofs Go.RowKit
open Wk (Nd NV)

section
variable {H : Type} {enc : TypeId × Value → H} {W : World} {base : Nat} {spare : Nat → Bool} {held : Bool}

/-- These cells read as something of that type; nothing in it is longer than a machine holds. -/
def Rd (enc : TypeId × Value → H) (W : World) (base : Nat) (spare : Nat → Bool) (held : Bool) (t : TypeId) (cs : List Value) : Prop :=
  ∃ fuel d p, DataW.trod enc Tryz.prog W base spare held fuel t cs = some (d, p) ∧ ∀ n ∈ d.weights Tryz.prog t, n ≤ reachBytes

theorem weights_all {t : TypeId} : ∀ {l : List (DataW H)} {i : Nat} {d : DataW H}, l[i]? = some d → ∀ n ∈ d.weights Tryz.prog t, n ∈ DataW.weightsAll Tryz.prog t l
  | [], _, _, h, _, _ => by simp at h
  | x :: l, 0, d, h, n, hn => by simp at h; subst h; simp [DataW.weightsAll, hn]
  | x :: l, i + 1, d, h, n, hn => by simp at h; simp only [DataW.weightsAll, List.mem_append]; exact .inr (weights_all h n hn)

theorem Rd.field {t : TypeId} {fs : Array Field} {cs : List Value} (h : Rd enc W base spare held t cs) (ht : Tryz.prog.underlying t = some (.struct fs)) (i : Nat) (f : Field) (hf : fs[i]? = some f) : Rd enc W base spare held f.type ((cs.drop f.offset).take (Tryz.prog.cellsOf f.type)) := by
  obtain ⟨fu, d, p, h, hw⟩ := h
  obtain ⟨xs, n, rfl, hx, hl, hxl, hall⟩ := DataW.trod_struct ht h
  have hi : i < fs.size := (Array.getElem?_eq_some_iff.1 hf).1
  obtain ⟨b, hb⟩ : ∃ b, xs[i]? = some b := ⟨xs[i]'(by omega), List.getElem?_eq_getElem (by omega)⟩
  have h1 := hall i f hf
  rw [hb] at h1
  refine ⟨n, b.1, b.2, h1, fun m hm => hw m ?_⟩
  have hd : d = .agg (xs.map (·.1)) := congrArg Prod.fst hx
  subst hd
  simp only [DataW.weights, ht]
  exact DataW.weights_mem_each (j := i) (t := f.type) (d := b.1) (by simp [hf]) (by simp [hb]) m hm

theorem Rd.at {t ty : TypeId} {fs : Array Field} {cs : List Value} (h : Rd enc W base spare held t cs) (ht : Tryz.prog.underlying t = some (.struct fs)) (i o n : Nat) (hf : (fs[i]?).map (fun f => (f.type, f.offset)) = some (ty, o)) (hc : Tryz.prog.cellsOf ty = n) : Rd enc W base spare held ty ((cs.drop o).take n) := by
  obtain ⟨f, hf1, hf2⟩ := Option.map_eq_some_iff.1 hf
  simp only [Prod.mk.injEq] at hf2
  have := h.field ht i f hf1
  rw [hf2.1, hf2.2, hc] at this
  exact this
/-- A slice, element by element. -/
theorem Rd.slice {t e : TypeId} {m : Nat} {cs : List Value} (h : Rd enc W base spare held t cs) (ht : Tryz.prog.underlying t = some (.slice e)) (hm : Tryz.prog.cellsOf e = m) (hm0 : 0 < m) :
    ∃ ao n cap, cs = [.slice ao n cap] ∧ n * Tryz.prog.bytesOf e ≤ reachBytes ∧ n ≤ cap ∧ (0 < n → ∃ b off, ao = some ⟨b, off, none⟩ ∧ ∀ i, i < n → ∃ es : List Value, es.length = m ∧ W.rangeAt b (off + i * m) es ∧ Rd enc W base spare held e es) := by
  obtain ⟨fu, d, p, h, hw⟩ := h
  rcases DataW.trod_slice ht h with ⟨rfl, _⟩ | ⟨a, len, cap, elems, rest, n, rfl, rfl, hx, hb, hlc, hcm, hel, hall, _, _⟩
  · exact ⟨none, 0, 0, rfl, by simp, by omega, fun h => by omega⟩
  · have hd : d = .slice (elems.map (·.1)) (rest.map (·.1)) := congrArg Prod.fst hx
    subst hd
    simp only [DataW.weights, ht] at hw
    have hwl := hw _ (List.mem_cons_self ..)
    refine ⟨some a, len, cap, rfl, ?_, hlc, fun hn => ?_⟩
    · simp only [List.length_map] at hwl
      exact Nat.le_trans (Nat.mul_le_mul_right _ (by omega)) hwl
    · rw [hm] at hall
      have hone : ∀ i, i < len → ∃ es x, W.cells? base (a.add (i * m)) m = some es ∧ DataW.trod enc Tryz.prog W base spare held n e es = some x ∧ elems[i]? = some x := fun i hi => by
        have h1 := hall i hi
        rw [List.getElem?_eq_getElem (by omega)] at h1
        obtain ⟨es, he, hx⟩ := Option.bind_eq_some_iff.1 h1
        exact ⟨es, _, he, hx, List.getElem?_eq_getElem (by omega)⟩
      obtain ⟨es0, x0, hc0, _, _⟩ := hone 0 hn
      obtain ⟨b, off, sp⟩ := a
      have hs : sp = none := by
        have h3 := World.cells?_some hc0
        have h4 := h3.2.2 0 hm0
        rw [List.getElem?_eq_getElem (by omega)] at h4
        have := World.cell?_spot h4
        simpa [Addr.add] using this
      subst hs
      refine ⟨b, off, rfl, fun i hi => ?_⟩
      obtain ⟨es, x, hc, hx, hei⟩ := hone i hi
      have h3 := World.cells?_some hc
      refine ⟨es, h3.2.1, fun j v hv => ?_, n, x.1, x.2, hx, fun w hww => hw w ?_⟩
      · have hj : j < m := by have := (List.getElem?_eq_some_iff.1 hv).1; omega
        have h4 := h3.2.2 j hj
        rw [Addr.add_mid, Addr.add_mid] at h4
        exact h4.trans hv
      · refine List.mem_cons_of_mem _ (List.mem_append.2 (.inl (weights_all (i := i) ?_ w hww)))
        simp [hei]

theorem cells3 : Tryz.prog.cellsOf 3 = 1 := by kernel_rfl
theorem cells9 : Tryz.prog.cellsOf 9 = 1 := by kernel_rfl
theorem cells34 : Tryz.prog.cellsOf 47 = 1 := by kernel_rfl
theorem cells35 : Tryz.prog.cellsOf 48 = 1 := by kernel_rfl
theorem Rd.node {cs : List Value} (h : Rd enc W base spare held 54 cs) (hl : cs.length = 4) : ∃ a : Nd, cs = a.cs ∧ (0 ≤ a.t ∧ a.t < 4294967296) ∧ (-9223372036854775808 ≤ a.n ∧ a.n ≤ 9223372036854775807) ∧ a.s.size ≤ 140737488351232 := by
  match cs, hl with
  | [c0, c1, c2, c3], _ =>
    have r0 : Rd enc W base spare held 47 [c0] := h.at Tryz.underlying54 0 0 1 rfl cells34
    have r1 : Rd enc W base spare held 48 [c1] := h.at Tryz.underlying54 1 1 1 rfl cells35
    have r2 : Rd enc W base spare held 3 [c2] := h.at Tryz.underlying54 2 2 1 rfl cells3
    have r3 : Rd enc W base spare held 9 [c3] := h.at Tryz.underlying54 3 3 1 rfl cells9
    obtain ⟨f0, d0, p0, q0, -⟩ := r0
    obtain ⟨f1, d1, p1, q1, -⟩ := r1
    obtain ⟨f2, d2, p2, q2, -⟩ := r2
    obtain ⟨f3, d3, p3, q3, w3⟩ := r3
    obtain ⟨t, e0, -, hw0⟩ := DataW.trod_int Tryz.underlying47 q0
    obtain ⟨v, e1, -, -⟩ := DataW.trod_int Tryz.underlying48 q1
    obtain ⟨z, e2, -, hw2⟩ := DataW.trod_int Tryz.underlying3 q2
    obtain ⟨s, e3, hx3, -⟩ := DataW.trod_string Tryz.underlying9 q3
    simp only [List.cons.injEq, and_true] at e0 e1 e2 e3
    subst e0 e1 e2 e3
    simp only [Lit.wf, Bool.and_eq_true, decide_eq_true_eq, show IntKind.u32.min = 0 from rfl, show IntKind.u32.max = 4294967295 from rfl] at hw0
    simp only [Lit.wf, Bool.and_eq_true, decide_eq_true_eq, show IntKind.i64.min = -9223372036854775808 from rfl, show IntKind.i64.max = 9223372036854775807 from rfl] at hw2
    refine ⟨⟨t, v, z, s⟩, rfl, ⟨hw0.1, by simp only; omega⟩, hw2, ?_⟩
    have hd : d3 = .lit (.string s.data.toList) := congrArg Prod.fst hx3
    subst hd
    have := w3 s.data.toList.length (by simp [DataW.weights])
    rw [Array.length_toList] at this
    exact this
theorem Rd.nodes {v : Value} (h : Rd enc W base spare held 25 [v]) : ∃ a n cap L, v = .slice a n cap ∧ NV W a n cap L ∧ TagsOk L ∧ ∀ y ∈ L, y.s.size ≤ 140737488351232 := by
  obtain ⟨ao, n, cap, hv, hb, hc, hel⟩ := h.slice Tryz.underlying25 (m := 4) (by kernel_rfl) (by omega)
  simp only [List.cons.injEq, and_true] at hv
  subst hv
  rw [show Tryz.prog.bytesOf 54 = 40 by kernel_rfl, show reachBytes = 140737488351232 from rfl] at hb
  by_cases hn : 0 < n
  · obtain ⟨b, off, rfl, he⟩ := hel hn
    have hz : ∀ i, ∃ q : Nd, i < n → (∀ k u, q.cs[k]? = some u → W.cell? ⟨b, off + i * 4 + k, none⟩ = some u) ∧ (0 ≤ q.t ∧ q.t < 4294967296) ∧ (-9223372036854775808 ≤ q.n ∧ q.n ≤ 9223372036854775807) ∧ q.s.size ≤ 140737488351232 := fun i => by
      by_cases hi : i < n
      · obtain ⟨es, h1, h2, h3⟩ := he i hi
        obtain ⟨q, rfl, k1, k2, k3⟩ := h3.node h1
        exact ⟨q, fun _ => ⟨fun k u hu => h2 k u hu, k1, k2, k3⟩⟩
      · exact ⟨⟨0, 0, 0, ⟨#[]⟩⟩, fun h => absurd h hi⟩
    obtain ⟨F, hF⟩ := Classical.axiomOfChoice hz
    have hmem : ∀ y ∈ (List.range n).map F, ∃ i, i < n ∧ F i = y := fun y hy => by
      obtain ⟨i, hi, rfl⟩ := List.mem_map.1 hy
      exact ⟨i, List.mem_range.1 hi, rfl⟩
    refine ⟨_, n, cap, (List.range n).map F, rfl, ⟨by simp, hc, by omega, fun _ => ⟨b, off, rfl, fun i hi => ?_⟩, fun y hy => ?_⟩, fun y hy => ?_, fun y hy => ?_⟩
    · have hi' : i < n := by simpa using hi
      have e : ((List.range n).map F)[i]'hi = F i := by simp
      rw [e]
      have hk := (hF i hi').1
      exact ⟨hk 0 _ rfl, hk 1 _ rfl, hk 2 _ rfl, hk 3 _ rfl⟩
    · obtain ⟨i, hi, rfl⟩ := hmem y hy
      exact (hF i hi).2.2.1
    · obtain ⟨i, hi, rfl⟩ := hmem y hy
      exact (hF i hi).2.1
    · obtain ⟨i, hi, rfl⟩ := hmem y hy
      exact (hF i hi).2.2.2
  · obtain rfl : n = 0 := by omega
    exact ⟨ao, 0, cap, [], rfl, ⟨rfl, Nat.zero_le _, by omega, fun h => absurd h (by omega), fun y hy => by simp at hy⟩, fun y hy => by simp at hy, fun y hy => by simp at hy⟩
end
end Go.Proofs.YtoikdpjjcnmgeaaGreatDoor
end

section
/-
  DERIVED. What is implied, said in one line; as far as the loop has come.
-/
namespace Go.Proofs.YtoikdpjjcnmgeaaGreatDoor
open Go Go.Proofs Go.RowKit
open Wk (Nd NV)

/-- A text under another VR. -/
def txt (v : Int) (s : ByteArray) : ByteArray := if Rp.tx (Rp.vn v) then Rp.trimB s else s
/-- A node as it reads without its VR. -/
def imp (x : Nd) : Nd := if x.v = 29 ∨ x.v = 18 ∨ (Tb.docF x.t.toNat (Tb.upTo 10)).isSome = true then x else ⟨x.t, dflt x.t.toNat, x.n, txt (dflt x.t.toNat) (Rp.padB (Rp.pd (Rp.vn x.v)) x.s)⟩
def out (L : List Nd) : List Nd := if (res L).2 = true then L.map imp else []
theorem imp_t (x : Nd) : (imp x).t = x.t := by unfold imp; split <;> rfl
theorem imp_n (x : Nd) : (imp x).n = x.n := by unfold imp; split <;> rfl

/-- As far as the loop has come. -/
def mix (L : List Nd) (i : Nat) : List Nd := (L.take i).map imp ++ L.drop i
theorem mix_zero (L : List Nd) : mix L 0 = L := by simp [mix]
theorem mix_all (L : List Nd) : mix L L.length = L.map imp := by simp [mix]
theorem mix_len (L : List Nd) (i : Nat) (h : i ≤ L.length) : (mix L i).length = L.length := by simp [mix]; omega
theorem mix_at (L : List Nd) (i : Nat) (h : i < L.length) : (mix L i)[i]'(by rw [mix_len L i (by omega)]; exact h) = L[i] := by
  simp only [mix]
  rw [List.getElem_append_right (by rw [List.length_map, List.length_take]; omega)]
  simp [Nat.min_eq_left (Nat.le_of_lt h)]
theorem mix_next (L : List Nd) (i : Nat) (h : i < L.length) : mix L (i + 1) = (mix L i).set i (imp L[i]) := by
  simp only [mix]
  have hl : ((L.take i).map imp).length = i := by rw [List.length_map, List.length_take]; omega
  rw [List.set_append_right _ _ (by omega), hl, Nat.sub_self, List.drop_eq_getElem_cons h, List.set_cons_zero, List.take_succ_eq_append_getElem h, List.map_append, List.append_assoc]
  rfl
theorem mix_same (L : List Nd) (i : Nat) (h : i < L.length) (e : imp L[i] = L[i]) : mix L (i + 1) = mix L i := by
  rw [mix_next L i h, e]
  have := mix_at L i h
  conv => lhs; rw [← this]
  exact List.set_getElem_self _
theorem nds_set2 : ∀ (L : List Nd) (i : Nat) (h : i < L.length) (z : Int) (s : ByteArray), ((Wk.nds L).set (i * 4 + 1) (.int .i64 z)).set (i * 4 + 3) (.string s) = Wk.nds (L.set i ⟨(L[i]'h).t, z, (L[i]'h).n, s⟩)
  | a :: L, 0, h, z, s => by simp [Wk.nds, Nd.cs]
  | a :: L, i + 1, h, z, s => by
    have ih := nds_set2 L i (by simpa using h) z s
    rw [List.set_cons_succ, show Wk.nds (a :: L) = a.cs ++ Wk.nds L from rfl, show ∀ M, Wk.nds (a :: M) = a.cs ++ Wk.nds M from fun _ => rfl]
    rw [List.set_append_right _ _ (by simp [Nd.cs]; omega), List.set_append_right _ _ (by simp [Nd.cs]; omega), show (i + 1) * 4 + 1 - a.cs.length = i * 4 + 1 by simp [Nd.cs]; omega, show (i + 1) * 4 + 3 - a.cs.length = i * 4 + 3 by simp [Nd.cs]; omega, ih]
    rfl
/-- A row of nodes, one node anew. -/
theorem own_set2 {w : World} {base g n cap : Nat} {L : List Nd} {i : Nat} (h : w.ownsRow base 54 4 (.slice (some ⟨g, 0, none⟩) n cap) n (Wk.nds L)) (hi : i < L.length) (z : Int) (s : ByteArray) : ((w.setCell ⟨g, i * 4 + 1, none⟩ (.int .i64 z)).setCell ⟨g, i * 4 + 3, none⟩ (.string s)).ownsRow base 54 4 (.slice (some ⟨g, 0, none⟩) n cap) n (Wk.nds (L.set i ⟨(L[i]'hi).t, z, (L[i]'hi).n, s⟩)) := by
  have h1 := (World.ownsRow.stored h (i * 4 + 1) (.int .i64 z)).1
  have h2 := (World.ownsRow.stored h1 (i * 4 + 3) (.string s)).1
  rw [nds_set2 L i hi z s] at h2
  exact h2
theorem pad_size (p : Int) (s : ByteArray) : (Rp.padB p s).size ≤ s.size + 1 := by
  unfold Rp.padB
  split
  · omega
  · split <;> simp [ByteArray.size_append] <;> exact Nat.le_refl _
theorem imp_im (x : Nd) : imp x = imN x := rfl
end Go.Proofs.YtoikdpjjcnmgeaaGreatDoor
end

section
/-
  DERIVED. Implied, the program's.
-/
namespace Go.Proofs.YtoikdpjjcnmgeaaGreatDoor
open Go Go.Proofs Go.RowKit
open Wk (Nd NV)

/-- What Implied tells. -/
def ImpP (w : World) (L : List Nd) (e : Ending) (w' : World) : Prop := ∃ (u ve : Value), e = .returned (.tuple #[u, ve]) ∧ w'.ownsRow w.heap.size 54 4 u (out L).length (Wk.nds (out L)) ∧ (out L = [] → u = .slice none 0 0) ∧ PD w' ve (res L) ∧ Below w.heap.size w w'
/-- Between two nodes. -/
def II (w : World) (L : List Nd) (g n cap i : Nat) (W : World) : Prop := W.ownsRow w.heap.size 54 4 (.slice (some ⟨g, 0, none⟩) n cap) n (Wk.nds (mix L i)) ∧ Below w.heap.size w W
theorem II.on {w : World} {L : List Nd} {g n cap i : Nat} {W W' : World} (h : II w L g n cap i W) (hb : Below W.heap.size W W') : II w L g n cap i W' := ⟨Wk.ownsRow_below h.1 hb (Nat.le_refl _), h.2.trans (hb.mono h.2.size)⟩

set_option maxRecDepth 100000 in
set_option maxHeartbeats 4000000 in
theorem implied_any (w : World) (b off n cap : Nat) (L : List Nd) (hV : NV w (some ⟨b, off, none⟩) n cap L) (hT : TagsOk L) (hE : EG w) :
    Calls Tryz.prog 22 #[.slice (some ⟨b, off, none⟩) n cap] w (ImpP w L) := by
  have c13 := dformed_any w (some ⟨b, off, none⟩) n cap L hV hT hE
  have HV : Hid (NV w (some ⟨b, off, none⟩) n cap L) := hV
  have HT : Hid (TagsOk L) := hT
  have HN : Hid (n = L.length) := hV.len
  clear hV hT hE
  go_enter Tryz.func22, Tryz.ntmps22
  go_wp2_with (go_at_call 45; refine StopF.out ?_)
  refine ⟨Calls.mono c13 ?_⟩
  rintro e W2 ⟨ve, rfl, hpd, hb2⟩
  clear c13
  rcases hpd.out with ⟨hr, rfl⟩ | ⟨hr, hc⟩
  · obtain ⟨h40, hsz⟩ := res_ok hr
    have HO : Hid (out L = L.map imp) := by show _ = _; unfold out; rw [if_pos hr]
    have HR : Hid ((res L).2 = true) := hr
    have HS : Hid (∀ x ∈ L, x.v = 29 ∨ x.v = 18 ∨ x.s.size ≤ 65534) := hsz
    have HV2 : Hid (NV W2 (some ⟨b, off, none⟩) n cap L) := HV.out.on hb2.out
    have HB2 : Hid (Below w.heap.size w W2) := hb2.out
    have hn40 : n ≤ 4096 := by rw [HN.out]; exact h40
    clear hpd hb2 hr hsz h40 HV
    go_wp2_with (at_builtin; refine StopF.out ?_)
    refine ⟨Wk.copy22 rfl (.const (.slice none 0 0)) (.tmp 13) rfl rfl ⟨b, off, none⟩ cap L (by rw [← HN.out]; rfl) ?_ (by rw [← HN.out]; omega) ?_⟩
    · intro j u hj
      have hj4 := (List.getElem?_eq_some_iff.1 hj).1
      rw [Wk.nds_len] at hj4
      obtain ⟨b', off', hl, he, e0, e1, e2, e3⟩ := NV.cells HV2.out (j := j / 4) (by rw [HN.out]; omega)
      cases he
      have hg := Wk.nds_get L (j / 4) hl (j % 4) (Nat.mod_lt _ (by decide))
      rw [show j / 4 * 4 + j % 4 = j by omega, hj] at hg
      have hj' : off + j / 4 * 4 + j % 4 = off + j := by omega
      rw [Addr.add_mid, hg]
      rcases (show j % 4 = 0 ∨ j % 4 = 1 ∨ j % 4 = 2 ∨ j % 4 = 3 by omega) with h | h | h | h <;> rw [h] at hj' ⊢
      · exact (congrArg (fun o => W2.cell? ⟨b, o, none⟩) hj'.symm).trans e0
      · exact (congrArg (fun o => W2.cell? ⟨b, o, none⟩) hj'.symm).trans e1
      · exact (congrArg (fun o => W2.cell? ⟨b, o, none⟩) hj'.symm).trans e2
      · exact (congrArg (fun o => W2.cell? ⟨b, o, none⟩) hj'.symm).trans e3
    intro u W3 hown hbel hnil hsome
    have HB3 : Hid (Below w.heap.size w W3) := HB2.out.trans (hbel.mono HB2.out.size)
    by_cases hL : L = []
    · obtain rfl := hnil hL
      clear hnil hsome hown hbel
      have HL : Hid (L = []) := hL
      clear hL
      go_wp2
      refine wp_loop_rounds 1 ?_
      rw [rounds_succ]
      go_wp2
      refine bodyPost_ret (v := .tuple #[.slice none 0 0, .nilIface]) (by simp [results, Tryz.results22, go_sem]) rfl ⟨_, _, rfl, ?_, fun _ => rfl, .inl ⟨HR.out, rfl⟩, HB3.out⟩
      rw [HO.out, HL.out]
      exact World.ownsRow_nil _ _ _ _
    · obtain ⟨g, cp, rfl⟩ := hsome hL
      rw [← HN.out] at hown ⊢
      have HI0 : Hid (II w L g n cp 0 W3) := ⟨by rw [mix_zero]; exact Wk.own_base hown HB2.out.size, HB3.out⟩
      have HLN : Hid (¬ L = []) := hL
      clear hnil hsome hown hbel hL HB2 HV2 HB3
      go_wp2
      go_loopw [17] (fun x17 wr => ∃ i : Nat, x17 = .int .i64 (i : Int) ∧ i ≤ n ∧ Hid (II w L g n cp i wr)) (fun x17 _ => n - (intOf x17).toNat)
      case atStart => exact ⟨0, rfl, by omega, HI0⟩
      case round =>
        obtain ⟨i, rfl, hin, HI⟩ := hrel
        clear HI0
        by_cases hlt : i < n
        · have hltI : decide ((i : Int) < (n : Int)) = true := by simp; omega
          have hlen : i < L.length := by rw [← HN.out]; exact hlt
          have hmi : i < (mix L i).length := by rw [mix_len L i (by omega)]; exact hlen
          have hmn : n = (mix L i).length := by rw [mix_len L i (by omega)]; exact HN.out
          obtain ⟨m0, m1, m2, m3⟩ := own_at HI.out.1 hmn hmi
          rw [mix_at L i hlen] at m0 m1 m2 m3
          have htg := HT.out _ (List.getElem_mem hlen)
          have hss := HS.out _ (List.getElem_mem hlen)
          have HX : Hid (∀ e : imp (L[i]'hlen) = L[i]'hlen, mix L (i + 1) = mix L i) := fun e => mix_same L i hlen e
          have HY : Hid (mix L (i + 1) = (mix L i).set i (imp (L[i]'hlen)) ∧ ∃ h : i < (mix L i).length, (mix L i)[i]'h = L[i]'hlen) := ⟨mix_next L i hlen, hmi, mix_at L i hlen⟩
          generalize L[i]'hlen = q at m0 m1 m2 m3 htg hss HX HY
          obtain ⟨t, v, z, s⟩ := q
          simp only at *
          obtain ⟨tn, rfl⟩ : ∃ tn : Nat, t = (tn : Int) := ⟨t.toNat, by omega⟩
          have htn : tn < 4294967296 := by omega
          obtain ⟨W1, hW1⟩ : ∃ W1, wr.alloc (.cells #[.int .u32 (tn : Int), .int .i64 v, .int .i64 z, .string s] 54) = W1 := ⟨_, rfl⟩
          have hb1 : Below wr.heap.size wr W1 := by rw [← hW1]; exact (Below.refl _ _).alloc (Nat.le_refl _) _
          have HN1 : Hid (NC W1 wr.heap.size (tn : Int) v z s) := by rw [← hW1]; exact ⟨by simp, by simp, by simp, by simp⟩
          have HI1 : Hid (II w L g n cp i W1) := HI.out.on hb1
          obtain ⟨y0, y1, y2, y3⟩ := HN1.out
          have hgl : g < wr.heap.size := Rp.cell_lt m0
          clear hmi hmn hb1 htg
          by_cases h29 : v = 29
          · have b29 : (v == 29) = true := by rw [h29]; rfl
            have HE : Hid (mix L (i + 1) = mix L i) := HX.out (by unfold imp; rw [if_pos (.inl h29)])
            clear h29 HX HY
            go_wp2
            go_roundw
            case rel => exact ⟨i + 1, by go_num, by omega, ⟨by rw [HE.out]; exact HI1.out.1, HI1.out.2⟩⟩
            case measure => simp [intOf]; omega
          · have b29 : (v == 29) = false := beq_eq_false_iff_ne.2 h29
            by_cases h18 : v = 18
            · have b18 : (v == 18) = true := by rw [h18]; rfl
              have HE : Hid (mix L (i + 1) = mix L i) := HX.out (by unfold imp; rw [if_pos (.inr (.inl h18))])
              clear h29 h18 HX HY
              go_wp2
              go_roundw
              case rel => exact ⟨i + 1, by go_num, by omega, ⟨by rw [HE.out]; exact HI1.out.1, HI1.out.2⟩⟩
              case measure => simp [intOf]; omega
            · have b18 : (v == 18) = false := beq_eq_false_iff_ne.2 h18
              have hs65 : s.size ≤ 65534 := by rcases hss with h | h | h; exact absurd h h29; exact absurd h h18; exact h
              have c14 := known_any W1 tn htn
              by_cases hk : (Tb.docF tn (Tb.upTo 10)).isSome = true
              · rw [hk] at c14
                have HE : Hid (mix L (i + 1) = mix L i) := HX.out (by unfold imp; rw [if_pos (.inr (.inr hk))])
                clear h29 h18 hss hk HX HY
                go_wp2_with (first | (go_at_call 46; refine c14.mono ?_; rintro e W4 ⟨rfl, hb4⟩) | fail)
                go_roundw
                case rel => exact ⟨i + 1, by go_num, by omega, ⟨by rw [HE.out]; exact (HI1.out.on hb4).1, (HI1.out.on hb4).2⟩⟩
                case measure => simp [intOf]; omega
              · rw [Bool.eq_false_iff.2 hk] at c14
                have HQ : Hid (imp ⟨(tn : Int), v, z, s⟩ = ⟨(tn : Int), dflt tn, z, txt (dflt tn) (Rp.padB (Rp.pd (Rp.vn v)) s)⟩) := by
                  show _ = _
                  unfold imp
                  rw [if_neg (by rintro (h | h | h); exact h29 h; exact h18 h; exact hk h)]
                  rfl
                clear h29 h18 hss hk HX
                go_wp2_with (first | (go_at_call 46; refine c14.mono ?_; rintro e W4 ⟨rfl, hb4⟩; obtain ⟨k0, k1, k2, k3⟩ := HN1.out.on hb4) | (go_at_call 47; refine StopF.out ?_))
                refine ⟨Calls.mono (default_any W4 tn htn) ?_⟩
                rintro e W5 ⟨rfl, hb5⟩
                have HI5 : Hid (II w L g n cp i W5) := (HI1.out.on hb4).on hb5
                have HN5 : Hid (NC W5 wr.heap.size (tn : Int) v z s) := (HN1.out.on hb4).on hb5
                obtain ⟨hmi, hme⟩ := HY.out.2
                have hmn : n = (mix L i).length := by rw [mix_len L i (by omega)]; exact HN.out
                obtain ⟨x0, x1, x2, x3⟩ := own_at HI5.out.1 hmn hmi
                rw [hme] at x0 x1 x2 x3
                have xf : ∀ j, W5.frozen? ⟨g, j, none⟩ = false := fun j => World.ownsRow.frozenAt HI5.out.1 j
                have HQ6 : Hid ((W5.setCell ⟨g, i * 4 + 1, none⟩ (.int .i64 (dflt tn))).ownsRow w.heap.size 54 4 (.slice (some ⟨g, 0, none⟩) n cp) n ((Wk.nds (mix L i)).set (i * 4 + 1) (.int .i64 (dflt tn))) ∧ ((Wk.nds (mix L i)).set (i * 4 + 1) (.int .i64 (dflt tn))).set (i * 4 + 3) (.string (txt (dflt tn) (Rp.padB (Rp.pd (Rp.vn v)) s))) = Wk.nds (mix L (i + 1))) := by
                  refine ⟨(World.ownsRow.stored HI5.out.1 (i * 4 + 1) (.int .i64 (dflt tn))).1, ?_⟩
                  rw [HY.out.1, HQ.out, nds_set2 (mix L i) i hmi, hme]
                clear k0 k1 k2 k3 y0 y1 y2 y3 m0 m1 m2 m3 hW1 hb4 hb5 c14 HY HQ hmn hme hmi HI HI1 HN1
                obtain ⟨n0, n1, n2, n3⟩ := HN5.out
                have hne : g ≠ wr.heap.size := by omega
                obtain ⟨X, hX⟩ : ∃ X, W5.setCell ⟨g, i * 4 + 1, none⟩ (.int .i64 (dflt tn)) = X := ⟨_, rfl⟩
                rw [hX] at HQ6
                have z1 : X.cell? ⟨g, i * 4 + 1, none⟩ = some (.int .i64 (dflt tn)) := by rw [← hX]; exact Rp.cell_set_eq x1
                have z3 : X.cell? ⟨g, i * 4 + 3, none⟩ = some (.string s) := by rw [← hX]; exact (Rp.cell_set_ne (by omega)).trans x3
                have zf : ∀ j, X.frozen? ⟨g, j, none⟩ = false := fun j => by rw [← hX]; simpa using xf j
                have r1 : X.cell? ⟨wr.heap.size, 1, none⟩ = some (.int .i64 v) := by rw [← hX]; exact (Rp.cell_set_off hne).trans n1
                have r3 : X.cell? ⟨wr.heap.size, 3, none⟩ = some (.string s) := by rw [← hX]; exact (Rp.cell_set_off hne).trans n3
                have HBX : Hid (Below w.heap.size w X) := by rw [← hX]; exact HI5.out.2.setCell (p := ⟨g, i * 4 + 1, none⟩) (HI5.out.1.lt g rfl).1 _
                have cT : ∀ W, Calls Tryz.prog 48 #[.int .i64 (dflt tn), .string (Rp.padB (Rp.pd (Rp.vn v)) s)] W fun e w' => e = .returned (.string (txt (dflt tn) (Rp.padB (Rp.pd (Rp.vn v)) s))) ∧ Below W.heap.size W w' := fun W => Rp.trim_any W (dflt tn) _ (by have := pad_size (Rp.pd (Rp.vn v)) s; omega)
                go_wp2
                clear hX
                go_region_held3 (fun w' => w'.cell? ⟨g, i * 4 + 1, none⟩ = some (.int .i64 (dflt tn)) ∧ w'.cell? ⟨wr.heap.size, 1, none⟩ = some (.int .i64 v) ∧ w'.cell? ⟨wr.heap.size, 3, none⟩ = some (.string s)) (first | (go_keep; done) | exact ⟨(Rp.cell_set_ne (by omega)).trans (by assumption), (Rp.cell_set_off (by assumption)).trans (by assumption), (Rp.cell_set_off (by assumption)).trans (by assumption)⟩) (first | (go_at_call 49; refine Calls.mono (Rp.pad_any _ v s (by omega)) ?_; rintro e W6 ⟨rfl, hb6⟩; have u1 : W6.cell? ⟨g, i * 4 + 1, none⟩ = some (.int .i64 (dflt tn)) := (hb6.cell (p := ⟨g, i * 4 + 1, none⟩) (Rp.cell_lt z1)).trans z1; have u2 : W6.cell? ⟨wr.heap.size, 1, none⟩ = some (.int .i64 v) := (hb6.cell (p := ⟨wr.heap.size, 1, none⟩) (Rp.cell_lt r1)).trans r1; have u3 : W6.cell? ⟨wr.heap.size, 3, none⟩ = some (.string s) := (hb6.cell (p := ⟨wr.heap.size, 3, none⟩) (Rp.cell_lt r3)).trans r3; have u4 : W6.cell? ⟨g, i * 4 + 3, none⟩ = some (.string s) := (hb6.cell (p := ⟨g, i * 4 + 3, none⟩) (Rp.cell_lt z3)).trans z3; have u5 : W6.frozen? ⟨g, i * 4 + 3, none⟩ = false := (hb6.frozen (p := ⟨g, i * 4 + 3, none⟩) (Rp.cell_lt z3)).trans (zf _)) | (go_at_call 48; refine Calls.mono (cT _) ?_; rintro e W7 ⟨rfl, hb7⟩; have t1 : W7.cell? ⟨g, i * 4 + 1, none⟩ = some (.int .i64 (dflt tn)) := (hb7.cell (p := ⟨g, i * 4 + 1, none⟩) (Rp.cell_lt u1)).trans u1; have t2 : W7.cell? ⟨wr.heap.size, 1, none⟩ = some (.int .i64 v) := (hb7.cell (p := ⟨wr.heap.size, 1, none⟩) (Rp.cell_lt u2)).trans u2; have t3 : W7.cell? ⟨wr.heap.size, 3, none⟩ = some (.string s) := (hb7.cell (p := ⟨wr.heap.size, 3, none⟩) (Rp.cell_lt u3)).trans u3; have t4 : W7.cell? ⟨g, i * 4 + 3, none⟩ = some (.string s) := (hb7.cell (p := ⟨g, i * 4 + 3, none⟩) (Rp.cell_lt u4)).trans u4; have t5 : W7.frozen? ⟨g, i * 4 + 3, none⟩ = false := (hb7.frozen (p := ⟨g, i * 4 + 3, none⟩) (Rp.cell_lt u4)).trans u5))
                have hb67 : Below X.heap.size X W7 := ((Below.refl X.heap.size X).drew).trans (hb6.trans (hb7.mono hb6.size))
                have HB7 : Hid (Below w.heap.size w W7) := HBX.out.trans (hb67.mono HBX.out.size)
                have HI8 : Hid (II w L g n cp (i + 1) (W7.setCell ⟨g, i * 4 + 3, none⟩ (.string (txt (dflt tn) (Rp.padB (Rp.pd (Rp.vn v)) s))))) := by
                  have h1 : W7.ownsRow w.heap.size 54 4 (.slice (some ⟨g, 0, none⟩) n cp) n ((Wk.nds (mix L i)).set (i * 4 + 1) (.int .i64 (dflt tn))) := Wk.ownsRow_below HQ6.out.1 hb67 (Nat.le_refl _)
                  have h2 := (World.ownsRow.stored h1 (i * 4 + 3) (.string (txt (dflt tn) (Rp.padB (Rp.pd (Rp.vn v)) s)))).1
                  rw [HQ6.out.2] at h2
                  exact ⟨h2, HB7.out.setCell (p := ⟨g, i * 4 + 3, none⟩) (h1.lt g rfl).1 _⟩
                clear u1 u2 u3 u4 u5 t1 t2 t3 t4 t5 hb6 hb7 hb67 z1 z3 zf r1 r3 HQ6
                go_wp2
                go_roundw
                case rel => exact ⟨i + 1, by go_num, by omega, HI8⟩
                case measure => simp [intOf]; omega
        · have hltI : decide ((i : Int) < (n : Int)) = false := by simp; omega
          obtain rfl : i = n := by omega
          go_wp2
          refine bodyPost_ret (v := .tuple #[.slice (some ⟨g, 0, none⟩) i cp, .nilIface]) (by simp [results, Tryz.results22, go_sem]) rfl ⟨_, _, rfl, ?_, ?_, .inl ⟨HR.out, rfl⟩, HI.out.2⟩
          · have := HI.out.1
            rw [HO.out, List.length_map, ← mix_all, ← HN.out]
            exact this
          · intro e
            rw [HO.out] at e
            exact absurd (List.map_eq_nil_iff.1 e) HLN.out
  · obtain ⟨q, p, rfl, h0⟩ := hc
    have HR : Hid ((res L).2 = false) := hr
    have HO : Hid (out L = []) := by show _ = _; unfold out; rw [if_neg (by rw [hr]; decide)]
    clear hr
    go_wp2
    refine bodyPost_ret (v := .tuple #[.slice none 0 0, .iface 70 (.pointer (some ⟨q, 0, none⟩))]) (by simp [results, Tryz.results22, go_sem]) rfl ⟨_, _, rfl, ?_, fun _ => rfl, hpd.out, hb2.out⟩
    rw [HO.out]
    exact World.ownsRow_nil _ _ _ _
end Go.Proofs.YtoikdpjjcnmgeaaGreatDoor
end

section
/-
  DERIVED. What is implied of what is implied; Implied for whatever list.
-/
namespace Go.Proofs.YtoikdpjjcnmgeaaGreatDoor
open Go Go.Proofs Go.RowKit
open Wk (Nd NV nds)
open Go.Sort

theorem trimN_stop (L : List UInt8) : ∀ n, Rp.trimN L n = 0 ∨ ¬ (L.getD (Rp.trimN L n - 1) 1 = 32 ∨ L.getD (Rp.trimN L n - 1) 1 = 0)
  | 0 => .inl rfl
  | n + 1 => by
    rw [Rp.trimN]
    split
    · exact trimN_stop L n
    · rename_i h
      exact .inr (by rw [Nat.add_sub_cancel]; exact h)
theorem trim_trim (s : ByteArray) : Rp.trimB (Rp.trimB s) = Rp.trimB s := by
  have hz : (Rp.trimB s).size = Rp.trimN s.data.toList s.size := by
    unfold Rp.trimB
    rw [ByteArray.size_extract]
    have := Rp.trimN_le s.data.toList s.size
    omega
  have hd : (Rp.trimB s).data.toList = s.data.toList.take (Rp.trimN s.data.toList s.size) := Rp.extract_list s _
  have key : Rp.trimN (Rp.trimB s).data.toList (Rp.trimB s).size = (Rp.trimB s).size := by
    rw [hd, hz]
    rcases trimN_stop s.data.toList s.size with h | h
    · rw [h]; rfl
    · generalize hk : Rp.trimN s.data.toList s.size = k at h
      cases k with
      | zero => rfl
      | succ k =>
        rw [Nat.add_sub_cancel] at h
        rw [Rp.trimN, if_neg]
        rw [List.getD_eq_getElem?_getD, List.getElem?_take_of_lt (by omega), ← List.getD_eq_getElem?_getD]
        exact h
  apply ByteArray.ext
  apply Array.ext'
  have h2 : (Rp.trimB (Rp.trimB s)).data.toList = (Rp.trimB s).data.toList.take (Rp.trimN (Rp.trimB s).data.toList (Rp.trimB s).size) := Rp.extract_list _ _
  rw [h2, key]
  exact List.take_of_length_le (by rw [Array.length_toList]; exact Nat.le_refl _)
/-- A value of an element, padded and read again. -/
theorem val_back {a : Nd} (ha : elemOk a = true) (h18 : a.v ≠ 18) : trS a.v (Rp.padB (Rp.pd (Rp.vn a.v)) a.s) = a.s := by
  unfold elemOk bodyO at ha
  simp only [Bool.and_eq_true] at ha
  have h2 := ha.2.2
  rw [if_neg h18] at h2
  simp only [Bool.and_eq_true] at h2
  have h3 := h2.2.2.2
  unfold unp at h3
  unfold trS
  by_cases ht : Rp.tx (Rp.vn a.v) = true
  · rw [if_pos ht] at h3 ⊢
    exact trim_pad h3
  · rw [if_neg ht] at h3 ⊢
    unfold Rp.padB
    rw [if_pos (of_decide_eq_true h3)]
theorem tx_two : Rp.tx (Rp.vn 11) = true ∧ Rp.tx (Rp.vn 25) = false := by decide +kernel
theorem im_elem {a : Nd} (ha : elemOk a = true) : elemOk (imN a) = true := by
  by_cases h : a.v = 29 ∨ a.v = 18 ∨ (fnd a).isSome = true
  · have e : imN a = a := by unfold imN; rw [if_pos h]
    rw [e]; exact ha
  · have e : imN a = ⟨a.t, dflt a.t.toNat, a.n, trS (dflt a.t.toNat) (Rp.padB (Rp.pd (Rp.vn a.v)) a.s)⟩ := by unfold imN; rw [if_neg h]
    have hk : ¬ (kn a.t.toNat).isSome = true := fun e => h (.inr (.inr e))
    have h18 : a.v ≠ 18 := fun e => h (.inr (.inl e))
    have hd := dflt_un (elem_may ha).1 hk
    have hn0 := (elem_n a ha).2.resolve_left h18
    obtain ⟨-, -, hsz⟩ := elem_vr ha
    have hp := pad_len (Rp.pd (Rp.vn a.v)) a.s
    rw [e]
    unfold elemOk vrO bodyO
    simp only [Bool.and_eq_true]
    refine ⟨(elem_may ha).1, ?_, ?_⟩
    · have : (fnd ⟨a.t, dflt a.t.toNat, a.n, trS (dflt a.t.toNat) (Rp.padB (Rp.pd (Rp.vn a.v)) a.s)⟩).isSome = false := by
        show (kn a.t.toNat).isSome = false
        simpa using hk
      rw [this]; rfl
    · rw [if_neg (by omega)]
      simp only [Bool.and_eq_true, decide_eq_true_eq]
      refine ⟨by omega, hn0, ?_, ?_⟩
      · have := trS_size (dflt a.t.toNat) (Rp.padB (Rp.pd (Rp.vn a.v)) a.s)
        omega
      · unfold unp trS
        rcases hd with hd | hd <;> rw [hd]
        · rw [tx_two.1, if_pos rfl, if_pos rfl, trim_trim]
          exact beq_self_eq_true _
        · rw [tx_two.2, if_neg (by decide), if_neg (by decide)]
          exact decide_eq_true (by omega)
theorem im_item {a : Nd} (ha : itemOk a = true) : imN a = a := by
  unfold imN
  rw [if_pos (.inl (item_all ha).2.1)]
theorem im_im {a : Nd} (ha : elemOk a = true ∨ itemOk a = true) : imN (imN a) = imN a := by
  by_cases h : a.v = 29 ∨ a.v = 18 ∨ (fnd a).isSome = true
  · have e : imN a = a := by unfold imN; rw [if_pos h]
    rw [e, e]
  · rcases ha with ha | ha
    · have he := im_elem ha
      have hk : ¬ (kn a.t.toNat).isSome = true := fun e => h (.inr (.inr e))
      have hd := dflt_un (elem_may ha).1 hk
      have e : imN a = ⟨a.t, dflt a.t.toNat, a.n, trS (dflt a.t.toNat) (Rp.padB (Rp.pd (Rp.vn a.v)) a.s)⟩ := by unfold imN; rw [if_neg h]
      rw [e] at he ⊢
      have hv := val_back he (by show dflt a.t.toNat ≠ 18; omega)
      unfold imN
      rw [if_neg (by
        rintro (h1 | h1 | h1)
        · have h1 : dflt a.t.toNat = 29 := h1
          omega
        · have h1 : dflt a.t.toNat = 18 := h1
          omega
        · exact hk h1)]
      rw [hv]
    · exact im_item (by rw [im_item ha]; exact ha)
theorem im_v {a : Nd} (ha : elemOk a = true) : (imN a).v = 18 ↔ a.v = 18 := by
  constructor
  · intro h
    exact Classical.byContradiction fun h18 => bk_v false ha h18 h
  · intro h
    have e : imN a = a := by unfold imN; rw [if_pos (.inr (.inl h))]
    rw [e]; exact h
/-- What is implied of a data set is one. -/
theorem run_im : ∀ (L : List Nd) (i : Nat) (st : List Lv), (runL elemOk itemOk i st L).2 = true → (runL elemOk itemOk i st (L.map imN)).2 = true ∧ (L.map imN).map imN = L.map imN
  | [], i, st, h => ⟨h, rfl⟩
  | a :: L, i, st, h => by
    rw [runL] at h
    split at h
    · cases h
    · rename_i hn
      have hr : rightL elemOk itemOk a st = true := by
        rcases hb : rightL elemOk itemOk a st with _ | _
        · exact absurd (.inr hb) hn
        · rfl
      obtain ⟨h1, h2⟩ := run_im L (i + 1) _ h
      have hboth : rightL elemOk itemOk (imN a) st = true ∧ stepL (imN a) st = stepL a st ∧ imN (imN a) = imN a := by
        have ht : (imN a).t = a.t := bkN_t false a
        have hnn : (imN a).n = a.n := bkN_n false a
        by_cases hp : st.length % 2 = 0
        · unfold rightL at hr
          rw [if_pos hp, Bool.and_eq_true] at hr
          have e := im_item hr.1
          refine ⟨?_, by rw [e], by rw [e, e]⟩
          unfold rightL
          rw [if_pos hp, e, Bool.and_eq_true]
          exact hr
        · unfold rightL at hr
          rw [if_neg hp, Bool.and_eq_true] at hr
          refine ⟨?_, ?_, im_im (.inl hr.1)⟩
          · unfold rightL
            rw [if_neg hp, Bool.and_eq_true, im_elem hr.1, ht]
            exact ⟨rfl, hr.2⟩
          · unfold stepL
            congr 1
            cases st with
            | nil => rfl
            | cons x r =>
              show (if (r.length + 1) % 2 = 0 ∨ (imN a).v = 18 then ((imN a).n, 0) :: (x.1 - 1, (imN a).t) :: r else (x.1 - 1, (imN a).t) :: r) = (if (r.length + 1) % 2 = 0 ∨ a.v = 18 then (a.n, 0) :: (x.1 - 1, a.t) :: r else (x.1 - 1, a.t) :: r)
              rw [hnn, ht]
              by_cases hv : (r.length + 1) % 2 = 0 ∨ a.v = 18
              · rw [if_pos hv, if_pos (by rcases hv with hv | hv; exact .inl hv; exact .inr ((im_v hr.1).2 hv))]
              · rw [if_neg hv, if_neg (by rintro (h | h); exact hv (.inl h); exact hv (.inr ((im_v hr.1).1 h)))]
      refine ⟨?_, ?_⟩
      · rw [List.map_cons, runL, if_neg, hboth.2.1]
        · exact h1
        · rintro (h | h)
          · exact hn (.inl h)
          · rw [hboth.1] at h; cases h
      · rw [List.map_cons, List.map_cons, h2, hboth.2.2]
theorem res_im {L : List Nd} (h : (res L).2 = true) : (res (L.map imN)).2 = true ∧ (L.map imN).map imN = L.map imN := run_im L 0 _ h
end Go.Proofs.YtoikdpjjcnmgeaaGreatDoor
end

section
/-
  DERIVED. DatasetBack.
-/
namespace Go.Proofs.YtoikdpjjcnmgeaaGreatDoor
open Go Go.Proofs Go.RowKit
open Wk (Nd NV nds)
open Go.Sort

theorem own_nvL {w : World} {b m : Nat} {u : Value} {M : List Nd} (h : w.ownsRow b 54 4 u m (nds M)) (hm : m = M.length) (hs : m ≤ 4096) (hz : ∀ x ∈ M, -9223372036854775808 ≤ x.n ∧ x.n ≤ 9223372036854775807) : ∃ a c, u = .slice a m c ∧ NV w a m c M ∧ (a = none → c = 0) := by
  rcases h.2 with ⟨hv, he⟩ | ⟨g, c, cur, hv, -⟩
  · have e0 : m = 0 := by
      first | exact he.1 | omega | simp_all
    exact ⟨none, 0, by rw [hv, e0], ⟨hm, by omega, by omega, fun h => absurd h (by omega), hz⟩, fun _ => rfl⟩
  · subst hv
    refine ⟨_, c, rfl, ⟨hm, Wk.own_cap h, by omega, fun _ => ⟨g, 0, rfl, fun i hi => ?_⟩, hz⟩, fun e => by cases e⟩
    have hg : ∀ k, k < 4 → w.cell? ⟨g, 0 + i * 4 + k, none⟩ = ((M[i]'hi).cs)[k]? := fun k hk => by
      rw [Nat.zero_add]
      refine (World.ownsRow.cellAt h (i * 4 + k) (by omega)).trans ?_
      exact Wk.nds_get M i hi k hk
    exact ⟨hg 0 (by decide), hg 1 (by decide), hg 2 (by decide), hg 3 (by decide)⟩
theorem res_nil : (res []).2 = true := rfl
set_option maxRecDepth 100000 in
set_option maxHeartbeats 4000000 in
theorem implied_zero (w : World) (a : Option Addr) (cap : Nat) (hE : EG w) (hc : a = none → cap = 0) : Calls Tryz.prog 22 #[.slice a 0 cap] w (ImpP w []) := by
  have c13 := dformed_any w a 0 cap [] ⟨rfl, Nat.zero_le _, by omega, fun h => absurd h (by omega), fun x hx => by simp at hx⟩ (fun x hx => by simp at hx) hE
  clear hE
  rcases a with _ | ad
  · obtain rfl := hc rfl
    clear hc
    go_enter Tryz.func22, Tryz.ntmps22
    go_wp2_with (go_at_call 45; refine StopQ.out ?_)
    refine ⟨Calls.mono c13 ?_⟩
    rintro e W2 ⟨ve, rfl, hpd, hb2⟩
    clear c13
    rcases hpd.out with ⟨hr, rfl⟩ | ⟨hr, hc⟩
    · have HB2 : Hid (Below w.heap.size w W2) := hb2.out
      clear hpd hb2 hr
      go_wp2_with (at_builtin; refine StopQ.out ?_)
      obtain ⟨i0, hi, hz0, hz1, hz2⟩ := info_parts Wk.info34
      refine ⟨wpList_append_own_none rfl (.const (.slice none 0 0)) (.tmp 13) 25 rfl W2.heap.size 54 i0 4 Tryz.underlying25 hi (.slice none 0 0) 0 [] rfl (World.ownsRow_nil _ _ _ _) rfl ?_⟩
      go_wp2
      refine wp_loop_rounds 1 ?_
      rw [rounds_succ]
      go_wp2
      exact bodyPost_ret (v := .tuple #[.slice none 0 0, .nilIface]) (by simp [results, Tryz.results22, go_sem]) rfl ⟨_, _, rfl, World.ownsRow_nil _ _ _ _, fun _ => rfl, .inl ⟨res_nil, rfl⟩, HB2.out⟩
    · rw [res_nil] at hr; cases hr
  · clear hc
    go_enter Tryz.func22, Tryz.ntmps22
    go_wp2_with (go_at_call 45; refine StopQ.out ?_)
    refine ⟨Calls.mono c13 ?_⟩
    rintro e W2 ⟨ve, rfl, hpd, hb2⟩
    clear c13
    rcases hpd.out with ⟨hr, rfl⟩ | ⟨hr, hc⟩
    · have HB2 : Hid (Below w.heap.size w W2) := hb2.out
      clear hpd hb2 hr
      go_wp2_with (at_builtin; refine StopQ.out ?_)
      refine ⟨Wk.copy22 rfl (.const (.slice none 0 0)) (.tmp 13) rfl rfl ad cap [] rfl (fun j u hj => by simp [nds] at hj) (by simp) ?_⟩
      intro u W3 hown hbel hnil hsome
      obtain rfl := hnil rfl
      have HB3 : Hid (Below w.heap.size w W3) := HB2.out.trans (hbel.mono HB2.out.size)
      clear hnil hsome hown hbel
      go_wp2
      refine wp_loop_rounds 1 ?_
      rw [rounds_succ]
      go_wp2
      exact bodyPost_ret (v := .tuple #[.slice none 0 0, .nilIface]) (by simp [results, Tryz.results22, go_sem]) rfl ⟨_, _, rfl, World.ownsRow_nil _ _ _ _, fun _ => rfl, .inl ⟨res_nil, rfl⟩, HB3.out⟩
    · rw [res_nil] at hr; cases hr
/-- Implied where nothing is refused. -/
theorem imp_ok (w : World) (a : Option Addr) (n cap : Nat) (L : List Nd) (hV : NV w a n cap L) (hT : TagsOk L) (hE : EG w) (hc : a = none → cap = 0) (hr : (res L).2 = true) : Calls Tryz.prog 22 #[.slice a n cap] w fun e w' => ∃ b c, e = .returned (.tuple #[.slice b n c, .nilIface]) ∧ Hid (NV w' b n c (L.map imN) ∧ (b = none → c = 0)) ∧ Hid (Below w.heap.size w w') := by
  have hP : Calls Tryz.prog 22 #[.slice a n cap] w (ImpP w L) := by
    by_cases hn : n = 0
    · subst hn
      obtain rfl : L = [] := List.length_eq_zero_iff.1 hV.len.symm
      exact implied_zero w a cap hE hc
    · obtain ⟨b, off, rfl, -⟩ := hV.lies (by omega)
      exact implied_any w b off n cap L hV hT hE
  refine hP.mono ?_
  rintro e w' ⟨u, ve, rfl, ho, -, hp, hb⟩
  have e1 : out L = L.map imN := by unfold out; rw [if_pos hr]; rfl
  have hl := (res_ok hr).1
  have hnl := hV.len
  rw [e1, List.length_map, ← hnl] at ho
  obtain ⟨b, c, rfl, hN, hq⟩ := own_nvL ho (by rw [List.length_map]; exact hnl) (by omega) (fun x hx => by
    obtain ⟨y, hy, rfl⟩ := List.mem_map.1 hx
    have : (imN y).n = y.n := bkN_n false y
    rw [this]
    exact hV.num y hy)
  rcases hp with ⟨-, rfl⟩ | ⟨h, -⟩
  · exact ⟨b, c, rfl, ⟨hN, hq⟩, hb⟩
  · rw [hr] at h; cases h

end Go.Proofs.YtoikdpjjcnmgeaaGreatDoor
end

section
/-
  DERIVED. DatasetBack.
-/
namespace Go.Proofs.YtoikdpjjcnmgeaaGreatDoor
open Go Go.Proofs Go.RowKit
open Wk (Nd NV nds)
open Go.Sort

set_option maxRecDepth 100000 in
set_option maxHeartbeats 8000000 in
theorem back_law (w : World) (a : Option Addr) (n cap : Nat) (L : List Nd) (hV : NV w a n cap L) (hT : TagsOk L) (hc : a = none → cap = 0) (hE : EG w) : Calls Tryz.prog 5 #[.slice a n cap] w fun e w' => e = .returned (.bool true) ∧ Below w.heap.size w w' := by
  have HV : Hid (NV w a n cap L) := hV
  have HT : Hid (TagsOk L) := hT
  have HE : Hid (EG w) := hE
  have HC : Hid (a = none → cap = 0) := hc
  have HNL : Hid (n = L.length) := hV.len
  obtain ⟨z1, hz1⟩ : ∃ z, (errOf 1 L).isSome = z := ⟨_, rfl⟩
  obtain ⟨z2, hz2⟩ : ∃ z, (errOf 2 L).isSome = z := ⟨_, rfl⟩
  have HZ : Hid ((errOf 1 L).isSome = z1 ∧ (errOf 2 L).isSome = z2) := ⟨hz1, hz2⟩
  clear hV hT hE hz1 hz2 hc
  go_enter Tryz.func5, Tryz.ntmps5
  go_wp2_with (go_at_call 18; refine StopQ.out ?_)
  refine ⟨Calls.mono (alive_any w HE.out) ?_⟩
  rintro e W1 ⟨rfl, hb1⟩
  have HB1 : Hid (Below w.heap.size w W1) := hb1
  clear hb1
  go_wp2_with (go_at_call 19; refine StopQ.out ?_)
  refine ⟨Calls.mono (short_any W1 a n cap L (HV.out.on HB1.out) HT.out z1 z2 HZ.out.1 HZ.out.2) ?_⟩
  rintro e W2 ⟨rfl, hb2⟩
  have HB2 : Hid (Below w.heap.size w W2) := HB1.out.trans (hb2.mono HB1.out.size)
  clear hb2
  rcases hq : (!z1 && !z2) with _ | _
  · go_wp2
    go_ret
    exact ⟨rfl, HB2.out⟩
  obtain ⟨rfl, rfl⟩ : z1 = false ∧ z2 = false := by cases z1 <;> cases z2 <;> simp_all
  have HO : Hid (errOf 1 L = none ∧ errOf 2 L = none) := ⟨by simpa using HZ.out.1, by simpa using HZ.out.2⟩
  have HR : Hid ((res L).2 = true) := (err_ok HO.out.1).2.1
  clear hq HZ
  go_wp2_with (go_at_call 20; refine StopQ.out ?_)
  refine ⟨Calls.mono (enc_ok W2 a n cap L (HV.out.on HB2.out) HT.out (HE.out.keep HB2.out) 2 HO.out.2) ?_⟩
  rintro e W3 ⟨a3, c3, rfl, hB3, hb3⟩
  have HB3 : Hid (Below w.heap.size w W3) := HB2.out.trans (hb3.out.mono HB2.out.size)
  have HOK2 : Hid (OkD 2 (outB 2 L) L) := by
    have := back_ok HO.out.2 HT.out
    rw [show decide ((2 : Int) = 2) = true from rfl, show L.map (bkN true) = L from List.map_id _] at this
    exact this
  go_wp2_with (go_at_call 10; refine StopQ.out ?_)
  refine ⟨Calls.mono (dec_ok W3 a3 _ c3 (outB 2 L) 2 L hB3.out HOK2.out) ?_⟩
  rintro e W4 ⟨a4, c4, rfl, hN4, hb4⟩
  have HB4 : Hid (Below w.heap.size w W4) := HB3.out.trans (hb4.out.mono HB3.out.size)
  rw [← HNL.out] at hN4 ⊢
  clear hB3 hb3 hb4
  go_wp2_with (go_at_call 13; refine StopQ.out ?_)
  refine ⟨Calls.mono (Wk.nodes_same W4 a4 a n c4 cap L hN4.out (HV.out.on HB4.out)) ?_⟩
  rintro e W5 ⟨rfl, m5, hW5⟩
  have HB5 : Hid (Below w.heap.size w W5) := by rw [hW5]; exact Wk.below_drw HB4.out m5
  clear hN4 hW5
  go_wp2_with (go_at_call 22; refine StopQ.out ?_)
  refine ⟨Calls.mono (imp_ok W5 a n cap L (HV.out.on HB5.out) HT.out (HE.out.keep HB5.out) HC.out HR.out) ?_⟩
  rintro e W6 ⟨a6, c6, rfl, hN6, hb6⟩
  have HB6 : Hid (Below w.heap.size w W6) := HB5.out.trans (hb6.out.mono HB5.out.size)
  obtain ⟨M, hM⟩ : ∃ M, L.map imN = M := ⟨_, rfl⟩
  have HMR : Hid ((res M).2 = true ∧ M.map imN = M) := by rw [← hM]; exact res_im HR.out
  have HMT : Hid (TagsOk M) := by
    rw [← hM]
    intro x hx
    obtain ⟨y, hy, rfl⟩ := List.mem_map.1 hx
    have : (imN y).t = y.t := bkN_t false y
    rw [this]
    exact HT.out y hy
  have HOK1 : Hid (OkD 1 (outB 1 L) M) := by
    have := back_ok HO.out.1 HT.out
    rw [show decide ((1 : Int) = 2) = false from rfl, show L.map (bkN false) = M from hM] at this
    exact this
  have HMN : Hid (M.length = n) := by show _ = _; rw [← hM, List.length_map]; exact HNL.out.symm
  rw [hM] at hN6
  clear hb6 hM
  go_wp2_with (go_at_call 20; refine StopQ.out ?_)
  refine ⟨Calls.mono (enc_ok W6 a n cap L (HV.out.on HB6.out) HT.out (HE.out.keep HB6.out) 1 HO.out.1) ?_⟩
  rintro e W7 ⟨a7, c7, rfl, hB7, hb7⟩
  have HB7 : Hid (Below w.heap.size w W7) := HB6.out.trans (hb7.out.mono HB6.out.size)
  go_wp2_with (go_at_call 10; refine StopQ.out ?_)
  refine ⟨Calls.mono (dec_ok W7 a7 _ c7 (outB 1 L) 1 M hB7.out HOK1.out) ?_⟩
  rintro e W8 ⟨a8, c8, rfl, hN8, hb8⟩
  have HB8 : Hid (Below w.heap.size w W8) := HB7.out.trans (hb8.out.mono HB7.out.size)
  have HN68 : Hid (NV W8 a6 n c6 M) := (hN6.out.1.on hb7.out).on hb8.out
  have HC6 : Hid (a6 = none → c6 = 0) := hN6.out.2
  rw [HMN.out] at hN8 ⊢
  clear hB7 hb7 hb8 hN6
  go_wp2_with (go_at_call 13; refine StopQ.out ?_)
  refine ⟨Calls.mono (Wk.nodes_same W8 a8 a6 n c8 c6 M hN8.out HN68.out) ?_⟩
  rintro e W9 ⟨rfl, m9, hW9⟩
  have HB9 : Hid (Below w.heap.size w W9) := by rw [hW9]; exact Wk.below_drw HB8.out m9
  have HN9 : Hid (NV W9 a6 n c6 M) := by rw [hW9]; exact HN68.out.on (Wk.below_drw (Below.refl _ _) m9)
  clear hW9 hN8 HN68
  go_wp2_with (go_at_call 22; refine StopQ.out ?_)
  refine ⟨Calls.mono (imp_ok W9 a6 n c6 M HN9.out HMT.out (HE.out.keep HB9.out) HC6.out HMR.out.1) ?_⟩
  rintro e W10 ⟨a10, c10, rfl, hN10, hb10⟩
  have HB10 : Hid (Below w.heap.size w W10) := HB9.out.trans (hb10.out.mono HB9.out.size)
  have HNa : Hid (NV W10 a10 n c10 M) := by have := hN10.out.1; rw [HMR.out.2] at this; exact this
  have HNb : Hid (NV W10 a6 n c6 M) := HN9.out.on hb10.out
  clear hN10 hb10
  go_wp2_with (go_at_call 13; refine StopQ.out ?_)
  refine ⟨Calls.mono (Wk.nodes_same W10 a10 a6 n c10 c6 M HNa.out HNb.out) ?_⟩
  rintro e W11 ⟨rfl, m11, hW11⟩
  have HB11 : Hid (Below w.heap.size w W11) := by rw [hW11]; exact Wk.below_drw HB10.out m11
  clear hW11
  go_wp2
  go_ret
  exact ⟨rfl, HB11.out⟩
end Go.Proofs.YtoikdpjjcnmgeaaGreatDoor
end

section
/-
  DERIVED. A slice that came in with no address is nil.
-/
namespace Go.Proofs.YtoikdpjjcnmgeaaGreatDoor
open Go Go.Proofs Go.RowKit
theorem Rd.nocap {H : Type} {enc : TypeId × Value → H} {W : World} {base : Nat} {spare : Nat → Bool} {held : Bool} {ao : Option Addr} {n cap : Nat} (h : Rd enc W base spare held 25 [.slice ao n cap]) : ao = none → cap = 0 := by
  obtain ⟨fu, d, p, h, -⟩ := h
  rcases DataW.trod_slice Tryz.underlying25 h with ⟨e, _⟩ | ⟨a, len, c, elems, rest, m, -, e, -⟩
  · cases e; exact fun _ => rfl
  · cases e; intro e2; cases e2
end Go.Proofs.YtoikdpjjcnmgeaaGreatDoor
end
