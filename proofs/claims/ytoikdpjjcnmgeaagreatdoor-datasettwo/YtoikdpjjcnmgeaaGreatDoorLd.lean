import Derived.Test.YtoikdpjjcnmgeaaGreatDoorBn
import Derived.Test.YtoikdpjjcnmgeaaGreatDoorBs
import Derived.Test.YtoikdpjjcnmgeaaGreatDoorDc
import Derived.Lib.QuietBelow
import Derived.Test.YtoikdpjjcnmgeaaGreatDoorId
import Derived.ChangeArms
import Derived.SizedLaws
import Derived.OpenShut
section
/-
  DERIVED. May it be laid down in both syntaxes? The law's own look.
-/
namespace Go.Proofs.YtoikdpjjcnmgeaaGreatDoor
open Go Go.Proofs Go.RowKit
open Wk (Nd NV nds)
open Go.Sort

theorem some_zero : SomeC 0 :=
  some_step 0 (by decide) fun _ => some_step 1 (by decide) fun _ => some_step 2 (by decide) fun _ => some_step 3 (by decide) fun _ => some_step 4 (by decide) fun h => absurd h (by decide)
set_option maxRecDepth 100000 in
theorem any_gen (w : World) (g m cap : Nat) (c : Int) (hc : c ≠ 0) : Calls Tryz.prog 26 #[.agg #[.slice (some ⟨g, 0, none⟩) m cap, .int .i64 c]] w fun e w' => e = .returned (.bool true) ∧ Below w.heap.size w w' := by
  have b : (c != 0) = true := bne_iff_ne.2 hc
  clear hc
  go_enter Tryz.func26, Tryz.ntmps26
  go_wp2
  go_ret
  exact ⟨rfl, (Below.refl _ _).alloc (Nat.le_refl _) _⟩
theorem err_c {s : Int} {L : List Nd} {ls : List Lk} {c : Int} (h : errOf s L = some (ls, c)) : c ≠ 0 := by
  unfold errOf at h
  split at h
  · cases h; decide
  · split at h
    · cases h; decide
    · split at h
      · cases h; decide
      · cases h
/-- Is a fault told? -/
theorem any_err (w : World) {w0 : World} {v : Value} {s : Int} {L : List Nd} {z : Bool} (h : RErr2 w0 v (errOf s L)) (hz : (errOf s L).isSome = z) : Calls Tryz.prog 26 #[v] w fun e w' => e = .returned (.bool z) ∧ Below w.heap.size w w' := by
  subst hz
  rcases h with ⟨h, rfl⟩ | ⟨ls, c, g, cg, h, rfl, -⟩
  · rw [h]; exact any_none w
  · have := err_c h
    rw [h]
    exact any_gen w g _ cg c this
theorem rerr_form {w : World} {v : Value} {o : Option (List Lk × Int)} (h : RErr2 w v o) : ∃ (a : Option Addr) (m c : Nat) (z : Int), v = .agg #[.slice a m c, .int .i64 z] := by
  rcases h with ⟨-, rfl⟩ | ⟨ls, c, g, cg, -, rfl, -⟩
  · exact ⟨_, _, _, _, rfl⟩
  · exact ⟨_, _, _, _, rfl⟩

set_option maxRecDepth 100000 in
set_option maxHeartbeats 4000000 in
theorem short_any (w : World) (a : Option Addr) (n cap : Nat) (L : List Nd) (hV : NV w a n cap L) (hT : TagsOk L) (z1 z2 : Bool) (hz1 : (errOf 1 L).isSome = z1) (hz2 : (errOf 2 L).isSome = z2) : Calls Tryz.prog 19 #[.slice a n cap] w fun e w' => e = .returned (.bool (!z1 && !z2)) ∧ Below w.heap.size w w' := by
  have HZ1 : Hid ((errOf 1 L).isSome = z1) := hz1
  have HZ2 : Hid ((errOf 2 L).isSome = z2) := hz2
  clear hz1 hz2
  have HV : Hid (NV w a n cap L) := hV
  have HT : Hid (TagsOk L) := hT
  clear hV hT
  go_enter Tryz.func19, Tryz.ntmps19
  go_wp2_with (go_at_call 25; refine StopQ.out ?_)
  refine ⟨Calls.mono (rsize_any some_zero w a n cap L HV.out HT.out 1) ?_⟩
  rintro e W1 ⟨vf, rfl, hp1, hb1⟩
  obtain ⟨fa, fm, fc, fz, hvf⟩ := rerr_form hp1
  subst hvf
  have HP1 : Hid (RErr2 W1 (.agg #[.slice fa fm fc, .int .i64 fz]) (errOf 1 L)) := hp1
  have HB1 : Hid (Below w.heap.size w W1) := hb1
  clear hp1 hb1
  go_wp2_with (go_at_call 25; refine StopQ.out ?_)
  obtain ⟨W2, hW2⟩ : ∃ W2, W1.alloc (.cells #[.slice fa fm fc, .int .i64 fz] 32) = W2 := ⟨_, rfl⟩
  have hb2 : Below W1.heap.size W1 W2 := by rw [← hW2]; exact (Below.refl _ _).alloc (Nat.le_refl _) _
  have c0 : W2.cell? ⟨W1.heap.size, 0, none⟩ = some (.slice fa fm fc) := by rw [← hW2]; simp
  have c1 : W2.cell? ⟨W1.heap.size, 1, none⟩ = some (.int .i64 fz) := by rw [← hW2]; simp
  rw [hW2]
  have HB2 : Hid (Below w.heap.size w W2) := HB1.out.trans (hb2.mono HB1.out.size)
  have HVT : Hid (NV W2 a n cap L ∧ TagsOk L) := ⟨HV.out.on (HB2.out), HT.out⟩
  refine ⟨Calls.mono (rsize_any some_zero W2 a n cap L HVT.out.1 HVT.out.2 2) ?_⟩
  rintro e W3 ⟨vf, rfl, hp3, hb3⟩
  obtain ⟨ga, gm, gc, gz, hvf⟩ := rerr_form hp3
  subst hvf
  obtain ⟨W4, hW4⟩ : ∃ W4, W3.alloc (.cells #[.slice ga gm gc, .int .i64 gz] 32) = W4 := ⟨_, rfl⟩
  have hb4 : Below W3.heap.size W3 W4 := by rw [← hW4]; exact (Below.refl _ _).alloc (Nat.le_refl _) _
  have d0 : W4.cell? ⟨W3.heap.size, 0, none⟩ = some (.slice ga gm gc) := by rw [← hW4]; simp
  have d1 : W4.cell? ⟨W3.heap.size, 1, none⟩ = some (.int .i64 gz) := by rw [← hW4]; simp
  have hb24 : Below W2.heap.size W2 W4 := hb3.trans (hb4.mono hb3.size)
  have e0 := (hb24.cell (Rp.cell_lt c0)).trans c0
  have e1 := (hb24.cell (Rp.cell_lt c1)).trans c1
  have HP3 : Hid (RErr2 W3 (.agg #[.slice ga gm gc, .int .i64 gz]) (errOf 2 L)) := hp3
  have HB4 : Hid (Below w.heap.size w W4) := HB2.out.trans (hb24.mono HB2.out.size)
  clear hp3 hb3 hb4 hb24 c0 c1 hb2 hW2
  go_wp2_with (go_at_call 26; refine StopQ.out ?_)
  refine ⟨Calls.mono (any_err W4 HP1.out HZ1.out) ?_⟩
  rintro e W5 ⟨rfl, hb5⟩
  have f0 := (hb5.cell (Rp.cell_lt d0)).trans d0
  have f1 := (hb5.cell (Rp.cell_lt d1)).trans d1
  have HB5 : Hid (Below w.heap.size w W5) := HB4.out.trans (hb5.mono HB4.out.size)
  clear hb5 hW4 d0 d1 e0 e1
  cases z1
  · go_wp2_with (go_at_call 26; refine StopQ.out ?_)
    refine ⟨Calls.mono (any_err W5 HP3.out HZ2.out) ?_⟩
    rintro e W6 ⟨rfl, hb6⟩
    have HB6 : Hid (Below w.heap.size w W6) := HB5.out.trans (hb6.mono HB5.out.size)
    clear hb6
    go_wp2
    go_ret
    exact ⟨rfl, HB6.out⟩
  · go_wp2
    go_ret
    exact ⟨rfl, HB5.out⟩
end Go.Proofs.YtoikdpjjcnmgeaaGreatDoor
end

section
/-
  DERIVED. DatasetTwo.
-/
namespace Go.Proofs.YtoikdpjjcnmgeaaGreatDoor
open Go Go.Proofs Go.RowKit
open Wk (Nd NV nds)
open Go.Sort

theorem find_q (W : World) (q : Nd) (h0 : 0 ≤ q.t) (h1 : q.t < 4294967296) (k : Bool) (hk : (fnd q).isSome = k) : Calls Tryz.prog 21 #[.int .u32 q.t] W fun e w' => ∃ a0 a1 a2 a3 a4 a5, e = .returned (.tuple #[.agg #[.int .u32 a0, .int .u32 a1, .int .i64 a2, .string a3, .int .i64 a4, .int .i64 a5], .bool k]) ∧ Below W.heap.size W w' := by
  have h := Tb.rfind_any W q.t.toNat (by omega)
  rw [show ((q.t.toNat : Nat) : Int) = q.t by omega] at h
  refine h.mono ?_
  rintro e w' ⟨rfl, hb⟩
  exact ⟨_, _, _, _, _, _, by rw [← hk]; rfl, hb⟩
theorem im_is {q : Nd} (h : (fnd q).isSome = true ∨ q.v = 18 ∨ q.v = 29) : imN q = q := by
  unfold imN
  rw [if_pos (by rcases h with h | h | h; exact .inr (.inr h); exact .inr (.inl h); exact .inl h)]
theorem bk_id (L : List Nd) : L.map (bkN true) = L := List.map_id _

set_option maxRecDepth 100000 in
set_option maxHeartbeats 8000000 in
theorem two_law (w : World) (a : Option Addr) (n cap : Nat) (L : List Nd) (hV : NV w a n cap L) (hT : TagsOk L) (hE : EG w) : Calls Tryz.prog 4 #[.slice a n cap] w fun e w' => e = .returned (.bool true) ∧ Below w.heap.size w w' := by
  have HV : Hid (NV w a n cap L) := hV
  have HT : Hid (TagsOk L) := hT
  have HE : Hid (EG w) := hE
  obtain ⟨z1, hz1⟩ : ∃ z, (errOf 1 L).isSome = z := ⟨_, rfl⟩
  obtain ⟨z2, hz2⟩ : ∃ z, (errOf 2 L).isSome = z := ⟨_, rfl⟩
  have HZ : Hid ((errOf 1 L).isSome = z1 ∧ (errOf 2 L).isSome = z2) := ⟨hz1, hz2⟩
  clear hV hT hE hz1 hz2
  go_enter Tryz.func4, Tryz.ntmps4
  go_wp2_with (go_at_call 18; refine StopQ.out ?_)
  refine ⟨Calls.mono (alive_any w HE.out) ?_⟩
  rintro e W1 ⟨rfl, hb1⟩
  have HB1 : Hid (Below w.heap.size w W1) := hb1
  clear hb1
  go_wp2_with (go_at_call 19; refine StopQ.out ?_)
  refine ⟨Calls.mono (short_any W1 a n cap L (HV.out.on HB1.out) HT.out z1 z2 HZ.out.1 HZ.out.2) ?_⟩
  rintro e W2 ⟨rfl, hb2⟩
  have HB2 : Hid (Below w.heap.size w W2) := HB1.out.trans (hb2.mono HB1.out.size)
  clear hb2
  rcases hq : (!z1 && !z2) with _ | _
  · go_wp2
    go_ret
    exact ⟨rfl, HB2.out⟩
  obtain ⟨rfl, rfl⟩ : z1 = false ∧ z2 = false := by cases z1 <;> cases z2 <;> simp_all
  have HO : Hid (errOf 1 L = none ∧ errOf 2 L = none) := ⟨by simpa using HZ.out.1, by simpa using HZ.out.2⟩
  clear hq HZ
  go_wp2_with (go_at_call 20; refine StopQ.out ?_)
  refine ⟨Calls.mono (enc_ok W2 a n cap L (HV.out.on HB2.out) HT.out (HE.out.keep HB2.out) 2 HO.out.2) ?_⟩
  rintro e W3 ⟨a3, c3, rfl, hB3, hb3⟩
  have HB3 : Hid (Below w.heap.size w W3) := HB2.out.trans (hb3.out.mono HB2.out.size)
  have HOK2 : Hid (OkD 2 (outB 2 L) L) := by
    have := back_ok HO.out.2 HT.out
    rw [show decide ((2 : Int) = 2) = true from rfl, bk_id] at this
    exact this
  go_wp2_with (go_at_call 10; refine StopQ.out ?_)
  refine ⟨Calls.mono (dec_ok W3 a3 _ c3 (outB 2 L) 2 L hB3.out HOK2.out) ?_⟩
  rintro e W4 ⟨a4, c4, rfl, hN4, hb4⟩
  have HB4 : Hid (Below w.heap.size w W4) := HB3.out.trans (hb4.out.mono HB3.out.size)
  clear hB3 hb3 hb4
  go_wp2_with (go_at_call 20; refine StopQ.out ?_)
  refine ⟨Calls.mono (enc_ok W4 a4 _ c4 L hN4.out HT.out (HE.out.keep HB4.out) 1 HO.out.1) ?_⟩
  rintro e W5 ⟨a5, c5, rfl, hB5, hb5⟩
  have HB5 : Hid (Below w.heap.size w W5) := HB4.out.trans (hb5.out.mono HB4.out.size)
  obtain ⟨M, hM⟩ : ∃ M, L.map (bkN false) = M := ⟨_, rfl⟩
  have hml : M.length = L.length := by rw [← hM, List.length_map]
  have HM : Hid (∀ i (h : i < L.length) (h' : i < M.length), M[i]'h' = imN (L[i]'h)) := by
    subst hM
    intro i h h'
    rw [List.getElem_map]
    rfl
  have HOK1 : Hid (OkD 1 (outB 1 L) M) := by
    have := back_ok HO.out.1 HT.out
    rw [show decide ((1 : Int) = 2) = false from rfl, hM] at this
    exact this
  clear hM
  go_wp2_with (go_at_call 10; refine StopQ.out ?_)
  refine ⟨Calls.mono (dec_ok W5 a5 _ c5 (outB 1 L) 1 M hB5.out HOK1.out) ?_⟩
  rintro e W6 ⟨a6, c6, rfl, hN6, hb6⟩
  have HB6 : Hid (Below w.heap.size w W6) := HB5.out.trans (hb6.out.mono HB5.out.size)
  have hnl := HV.out.len
  have HL : Hid (n = L.length ∧ M.length = n ∧ n ≤ 3518437208780) := ⟨hnl, by omega, HV.out.small⟩
  have hmn : M.length = n := by omega
  rw [hmn] at hN6 ⊢
  have HVW : Hid (NV W6 a n cap L) := HV.out.on HB6.out
  have HN6 : Hid (NV W6 a6 n c6 M) := hN6
  have hsm := HV.out.small
  clear hB5 hb5 hb6 hN4 hN6 hnl hml hmn
  go_wp2
  go_loopw [8] (fun x8 wr => ∃ i : Nat, x8 = .int .i64 (i : Int) ∧ i ≤ n ∧ Hid (Below W6.heap.size W6 wr)) (fun x8 _ => n - (intOf x8).toNat)
  case atStart => exact ⟨0, rfl, by omega, Below.refl _ _⟩
  case round =>
    obtain ⟨i, rfl, hi22, HBR⟩ := hrel
    by_cases hin : i < n
    · have hil : i < L.length := by rw [← HL.out.1]; exact hin
      have him : i < M.length := by rw [HL.out.2.1]; exact hin
      obtain ⟨b1, o1, hr1, l1⟩ := (HVW.out.on HBR.out).lies (by omega)
      obtain ⟨b2, o2, hr2, l2⟩ := (HN6.out.on HBR.out).lies (by omega)
      subst hr1 hr2
      have hy := HM.out i hil him
      have N1 := l1 i hil
      have N2 := l2 i him
      have hTq := HT.out _ (List.getElem_mem hil)
      rw [hy] at N2
      have hI : (i : Int) < (n : Int) := by omega
      generalize L[i]'hil = q at N1 N2 hTq
      obtain ⟨k, hk⟩ : ∃ k, (fnd q).isSome = k := ⟨_, rfl⟩
      have HK : Hid ((fnd q).isSome = k ∧ 0 ≤ q.t ∧ q.t < 4294967296) := ⟨hk, hTq⟩
      have HN1 : Hid _ := N1
      have HN2 : Hid _ := N2
      obtain ⟨q0, -, -, -⟩ := N1
      clear l1 l2 hy N2 hTq hk
      go_wp2_with (go_at_call 21; refine StopQ.out ?_)
      refine ⟨Calls.mono (find_q _ q HK.out.2.1 HK.out.2.2 k HK.out.1) ?_⟩
      rintro e W7 ⟨e0, e1, e2, e3, e4, e5, rfl, hb7⟩
      obtain ⟨W8, hW8⟩ : ∃ W8, W7.alloc (.cells #[.int .u32 e0, .int .u32 e1, .int .i64 e2, .string e3, .int .i64 e4, .int .i64 e5] 50) = W8 := ⟨_, rfl⟩
      have hb8 := hb7.trans (((Below.refl W7.heap.size W7).alloc (Nat.le_refl _) (.cells #[.int .u32 e0, .int .u32 e1, .int .i64 e2, .string e3, .int .i64 e4, .int .i64 e5] 50)).mono hb7.size)
      rw [hW8] at hb8
      have HX8 : Hid (Below W6.heap.size W6 W8) := HBR.out.trans (hb8.mono HBR.out.size)
      obtain ⟨x0, x1, x2, x3⟩ := HN1.out
      obtain ⟨y0, y1, y2, y3⟩ := HN2.out
      have x0 := (hb8.cell (Rp.cell_lt x0)).trans x0
      have x1 := (hb8.cell (Rp.cell_lt x1)).trans x1
      have x2 := (hb8.cell (Rp.cell_lt x2)).trans x2
      have x3 := (hb8.cell (Rp.cell_lt x3)).trans x3
      have y0 := (hb8.cell (Rp.cell_lt y0)).trans y0
      have y1 := (hb8.cell (Rp.cell_lt y1)).trans y1
      have y2 := (hb8.cell (Rp.cell_lt y2)).trans y2
      have y3 := (hb8.cell (Rp.cell_lt y3)).trans y3
      have hkk := HK.out.1
      have ht2 : (imN q).t = q.t := bkN_t false q
      have hn2 : (imN q).n = q.n := bkN_n false q
      rw [ht2] at y0
      rw [hn2] at y2
      clear hb8 hb7 HN1 HN2 HK q0 ht2 hn2
      cases k with
      | true =>
        rw [im_is (.inl hkk)] at y1 y3
        clear hkk
        go_wp2
        go_quiet (fail)
        go_wp2
        go_roundw
        case rel => exact ⟨i + 1, by go_num, by omega, Wk.below_drw HX8.out _⟩
        case measure => simp [intOf]; omega
      | false =>
        by_cases h18 : q.v = 18
        · rw [im_is (.inr (.inl h18))] at y1 y3
          rw [h18] at x1 y1
          clear hkk h18
          go_wp2
          go_quiet (fail)
          go_wp2
          go_roundw
          case rel => exact ⟨i + 1, by go_num, by omega, Wk.below_drw HX8.out _⟩
          case measure => simp [intOf]; omega
        · by_cases h29 : q.v = 29
          · rw [im_is (.inr (.inr h29))] at y1 y3
            rw [h29] at x1 y1
            clear hkk h29 h18
            go_wp2
            go_quiet (fail)
            go_wp2
            go_roundw
            case rel => exact ⟨i + 1, by go_num, by omega, Wk.below_drw HX8.out _⟩
            case measure => simp [intOf]; omega
          · have b18 : (q.v == 18) = false := beq_eq_false_iff_ne.2 h18
            have b29 : (q.v == 29) = false := beq_eq_false_iff_ne.2 h29
            clear hkk h29 h18 y1 y3
            go_wp2
            go_quiet (fail)
            go_wp2
            go_roundw
            case rel => exact ⟨i + 1, by go_num, by omega, Wk.below_drw HX8.out _⟩
            case measure => simp [intOf]; omega
    · obtain rfl : i = n := by omega
      have hI : ¬ (i : Int) < (i : Int) := by omega
      go_wp2
      go_ret
      exact ⟨rfl, HB6.out.trans (HBR.out.mono HB6.out.size)⟩
end Go.Proofs.YtoikdpjjcnmgeaaGreatDoor
end

section
/-
  DERIVED. Nodes that came in, read.
-/
namespace Go.Proofs.YtoikdpjjcnmgeaaGreatDoor
open Go Go.Proofs Go.RowKit
open Wk (Nd NV)

section
variable {H : Type} {enc : TypeId × Value → H} {W : World} {base : Nat} {spare : Nat → Bool} {held : Bool}

/-- These cells read as something of that type; nothing in it is longer than a machine holds. -/
def Rd (enc : TypeId × Value → H) (W : World) (base : Nat) (spare : Nat → Bool) (held : Bool) (t : TypeId) (cs : List Value) : Prop :=
  ∃ fuel d p, DataW.trod enc Tryz.prog W base spare held fuel t cs = some (d, p) ∧ ∀ n ∈ d.weights Tryz.prog t, n ≤ reachBytes

theorem weights_all {t : TypeId} : ∀ {l : List (DataW H)} {i : Nat} {d : DataW H}, l[i]? = some d → ∀ n ∈ d.weights Tryz.prog t, n ∈ DataW.weightsAll Tryz.prog t l
  | [], _, _, h, _, _ => by simp at h
  | x :: l, 0, d, h, n, hn => by simp at h; subst h; simp [DataW.weightsAll, hn]
  | x :: l, i + 1, d, h, n, hn => by simp at h; simp only [DataW.weightsAll, List.mem_append]; exact .inr (weights_all h n hn)

theorem Rd.field {t : TypeId} {fs : Array Field} {cs : List Value} (h : Rd enc W base spare held t cs) (ht : Tryz.prog.underlying t = some (.struct fs)) (i : Nat) (f : Field) (hf : fs[i]? = some f) : Rd enc W base spare held f.type ((cs.drop f.offset).take (Tryz.prog.cellsOf f.type)) := by
  obtain ⟨fu, d, p, h, hw⟩ := h
  obtain ⟨xs, n, rfl, hx, hl, hxl, hall⟩ := DataW.trod_struct ht h
  have hi : i < fs.size := (Array.getElem?_eq_some_iff.1 hf).1
  obtain ⟨b, hb⟩ : ∃ b, xs[i]? = some b := ⟨xs[i]'(by omega), List.getElem?_eq_getElem (by omega)⟩
  have h1 := hall i f hf
  rw [hb] at h1
  refine ⟨n, b.1, b.2, h1, fun m hm => hw m ?_⟩
  have hd : d = .agg (xs.map (·.1)) := congrArg Prod.fst hx
  subst hd
  simp only [DataW.weights, ht]
  exact DataW.weights_mem_each (j := i) (t := f.type) (d := b.1) (by simp [hf]) (by simp [hb]) m hm

theorem Rd.at {t ty : TypeId} {fs : Array Field} {cs : List Value} (h : Rd enc W base spare held t cs) (ht : Tryz.prog.underlying t = some (.struct fs)) (i o n : Nat) (hf : (fs[i]?).map (fun f => (f.type, f.offset)) = some (ty, o)) (hc : Tryz.prog.cellsOf ty = n) : Rd enc W base spare held ty ((cs.drop o).take n) := by
  obtain ⟨f, hf1, hf2⟩ := Option.map_eq_some_iff.1 hf
  simp only [Prod.mk.injEq] at hf2
  have := h.field ht i f hf1
  rw [hf2.1, hf2.2, hc] at this
  exact this
/-- A slice, element by element. -/
theorem Rd.slice {t e : TypeId} {m : Nat} {cs : List Value} (h : Rd enc W base spare held t cs) (ht : Tryz.prog.underlying t = some (.slice e)) (hm : Tryz.prog.cellsOf e = m) (hm0 : 0 < m) :
    ∃ ao n cap, cs = [.slice ao n cap] ∧ n * Tryz.prog.bytesOf e ≤ reachBytes ∧ n ≤ cap ∧ (0 < n → ∃ b off, ao = some ⟨b, off, none⟩ ∧ ∀ i, i < n → ∃ es : List Value, es.length = m ∧ W.rangeAt b (off + i * m) es ∧ Rd enc W base spare held e es) := by
  obtain ⟨fu, d, p, h, hw⟩ := h
  rcases DataW.trod_slice ht h with ⟨rfl, _⟩ | ⟨a, len, cap, elems, rest, n, rfl, rfl, hx, hb, hlc, hcm, hel, hall, _, _⟩
  · exact ⟨none, 0, 0, rfl, by simp, by omega, fun h => by omega⟩
  · have hd : d = .slice (elems.map (·.1)) (rest.map (·.1)) := congrArg Prod.fst hx
    subst hd
    simp only [DataW.weights, ht] at hw
    have hwl := hw _ (List.mem_cons_self ..)
    refine ⟨some a, len, cap, rfl, ?_, hlc, fun hn => ?_⟩
    · simp only [List.length_map] at hwl
      exact Nat.le_trans (Nat.mul_le_mul_right _ (by omega)) hwl
    · rw [hm] at hall
      have hone : ∀ i, i < len → ∃ es x, W.cells? base (a.add (i * m)) m = some es ∧ DataW.trod enc Tryz.prog W base spare held n e es = some x ∧ elems[i]? = some x := fun i hi => by
        have h1 := hall i hi
        rw [List.getElem?_eq_getElem (by omega)] at h1
        obtain ⟨es, he, hx⟩ := Option.bind_eq_some_iff.1 h1
        exact ⟨es, _, he, hx, List.getElem?_eq_getElem (by omega)⟩
      obtain ⟨es0, x0, hc0, _, _⟩ := hone 0 hn
      obtain ⟨b, off, sp⟩ := a
      have hs : sp = none := by
        have h3 := World.cells?_some hc0
        have h4 := h3.2.2 0 hm0
        rw [List.getElem?_eq_getElem (by omega)] at h4
        have := World.cell?_spot h4
        simpa [Addr.add] using this
      subst hs
      refine ⟨b, off, rfl, fun i hi => ?_⟩
      obtain ⟨es, x, hc, hx, hei⟩ := hone i hi
      have h3 := World.cells?_some hc
      refine ⟨es, h3.2.1, fun j v hv => ?_, n, x.1, x.2, hx, fun w hww => hw w ?_⟩
      · have hj : j < m := by have := (List.getElem?_eq_some_iff.1 hv).1; omega
        have h4 := h3.2.2 j hj
        rw [Addr.add_mid, Addr.add_mid] at h4
        exact h4.trans hv
      · refine List.mem_cons_of_mem _ (List.mem_append.2 (.inl (weights_all (i := i) ?_ w hww)))
        simp [hei]

theorem cells3 : Tryz.prog.cellsOf 3 = 1 := by kernel_rfl
theorem cells9 : Tryz.prog.cellsOf 9 = 1 := by kernel_rfl
theorem cells34 : Tryz.prog.cellsOf 47 = 1 := by kernel_rfl
theorem cells35 : Tryz.prog.cellsOf 48 = 1 := by kernel_rfl
theorem Rd.node {cs : List Value} (h : Rd enc W base spare held 54 cs) (hl : cs.length = 4) : ∃ a : Nd, cs = a.cs ∧ (0 ≤ a.t ∧ a.t < 4294967296) ∧ (-9223372036854775808 ≤ a.n ∧ a.n ≤ 9223372036854775807) ∧ a.s.size ≤ 140737488351232 := by
  match cs, hl with
  | [c0, c1, c2, c3], _ =>
    have r0 : Rd enc W base spare held 47 [c0] := h.at Tryz.underlying54 0 0 1 rfl cells34
    have r1 : Rd enc W base spare held 48 [c1] := h.at Tryz.underlying54 1 1 1 rfl cells35
    have r2 : Rd enc W base spare held 3 [c2] := h.at Tryz.underlying54 2 2 1 rfl cells3
    have r3 : Rd enc W base spare held 9 [c3] := h.at Tryz.underlying54 3 3 1 rfl cells9
    obtain ⟨f0, d0, p0, q0, -⟩ := r0
    obtain ⟨f1, d1, p1, q1, -⟩ := r1
    obtain ⟨f2, d2, p2, q2, -⟩ := r2
    obtain ⟨f3, d3, p3, q3, w3⟩ := r3
    obtain ⟨t, e0, -, hw0⟩ := DataW.trod_int Tryz.underlying47 q0
    obtain ⟨v, e1, -, -⟩ := DataW.trod_int Tryz.underlying48 q1
    obtain ⟨z, e2, -, hw2⟩ := DataW.trod_int Tryz.underlying3 q2
    obtain ⟨s, e3, hx3, -⟩ := DataW.trod_string Tryz.underlying9 q3
    simp only [List.cons.injEq, and_true] at e0 e1 e2 e3
    subst e0 e1 e2 e3
    simp only [Lit.wf, Bool.and_eq_true, decide_eq_true_eq, show IntKind.u32.min = 0 from rfl, show IntKind.u32.max = 4294967295 from rfl] at hw0
    simp only [Lit.wf, Bool.and_eq_true, decide_eq_true_eq, show IntKind.i64.min = -9223372036854775808 from rfl, show IntKind.i64.max = 9223372036854775807 from rfl] at hw2
    refine ⟨⟨t, v, z, s⟩, rfl, ⟨hw0.1, by simp only; omega⟩, hw2, ?_⟩
    have hd : d3 = .lit (.string s.data.toList) := congrArg Prod.fst hx3
    subst hd
    have := w3 s.data.toList.length (by simp [DataW.weights])
    rw [Array.length_toList] at this
    exact this
theorem Rd.nodes {v : Value} (h : Rd enc W base spare held 25 [v]) : ∃ a n cap L, v = .slice a n cap ∧ NV W a n cap L ∧ TagsOk L ∧ ∀ y ∈ L, y.s.size ≤ 140737488351232 := by
  obtain ⟨ao, n, cap, hv, hb, hc, hel⟩ := h.slice Tryz.underlying25 (m := 4) (by kernel_rfl) (by omega)
  simp only [List.cons.injEq, and_true] at hv
  subst hv
  rw [show Tryz.prog.bytesOf 54 = 40 by kernel_rfl, show reachBytes = 140737488351232 from rfl] at hb
  by_cases hn : 0 < n
  · obtain ⟨b, off, rfl, he⟩ := hel hn
    have hz : ∀ i, ∃ q : Nd, i < n → (∀ k u, q.cs[k]? = some u → W.cell? ⟨b, off + i * 4 + k, none⟩ = some u) ∧ (0 ≤ q.t ∧ q.t < 4294967296) ∧ (-9223372036854775808 ≤ q.n ∧ q.n ≤ 9223372036854775807) ∧ q.s.size ≤ 140737488351232 := fun i => by
      by_cases hi : i < n
      · obtain ⟨es, h1, h2, h3⟩ := he i hi
        obtain ⟨q, rfl, k1, k2, k3⟩ := h3.node h1
        exact ⟨q, fun _ => ⟨fun k u hu => h2 k u hu, k1, k2, k3⟩⟩
      · exact ⟨⟨0, 0, 0, ⟨#[]⟩⟩, fun h => absurd h hi⟩
    obtain ⟨F, hF⟩ := Classical.axiomOfChoice hz
    have hmem : ∀ y ∈ (List.range n).map F, ∃ i, i < n ∧ F i = y := fun y hy => by
      obtain ⟨i, hi, rfl⟩ := List.mem_map.1 hy
      exact ⟨i, List.mem_range.1 hi, rfl⟩
    refine ⟨_, n, cap, (List.range n).map F, rfl, ⟨by simp, hc, by omega, fun _ => ⟨b, off, rfl, fun i hi => ?_⟩, fun y hy => ?_⟩, fun y hy => ?_, fun y hy => ?_⟩
    · have hi' : i < n := by simpa using hi
      have e : ((List.range n).map F)[i]'hi = F i := by simp
      rw [e]
      have hk := (hF i hi').1
      exact ⟨hk 0 _ rfl, hk 1 _ rfl, hk 2 _ rfl, hk 3 _ rfl⟩
    · obtain ⟨i, hi, rfl⟩ := hmem y hy
      exact (hF i hi).2.2.1
    · obtain ⟨i, hi, rfl⟩ := hmem y hy
      exact (hF i hi).2.1
    · obtain ⟨i, hi, rfl⟩ := hmem y hy
      exact (hF i hi).2.2.2
  · obtain rfl : n = 0 := by omega
    exact ⟨ao, 0, cap, [], rfl, ⟨rfl, Nat.zero_le _, by omega, fun h => absurd h (by omega), fun y hy => by simp at hy⟩, fun y hy => by simp at hy, fun y hy => by simp at hy⟩
end
end Go.Proofs.YtoikdpjjcnmgeaaGreatDoor
end
