import Derived.Test.YtoikdpjjcnmgeaaGreatDoorBn
import Derived.Test.YtoikdpjjcnmgeaaGreatDoorBs
import Derived.Test.YtoikdpjjcnmgeaaGreatDoorDc
import Derived.Lib.QuietBelow
import Derived.Test.YtoikdpjjcnmgeaaGreatDoorId
import Derived.ChangeArms
import Derived.SizedLaws
import Derived.OpenShut
import Derived.Test.YtoikdpjjcnmgeaaGreatDoorLa
import Derived.Test.YtoikdpjjcnmgeaaGreatDoorBp
import Derived.BigQuiet
import Derived.WideMake
import Derived.Room.AppendFits
import Derived.Test.YtoikdpjjcnmgeaaGreatDoorBl
import Derived.Test.YtoikdpjjcnmgeaaGreatDoorNx
section
/-
  DERIVED. May it be laid down in both syntaxes? The law's own look.
-/
namespace Go.Proofs.YtoikdpjjcnmgeaaGreatDoor
open Go Go.Proofs Go.RowKit
open Wk (Nd NV nds)
open Go.Sort

theorem some_zero : SomeC 0 :=
  some_step 0 (by decide) fun _ => some_step 1 (by decide) fun _ => some_step 2 (by decide) fun _ => some_step 3 (by decide) fun _ => some_step 4 (by decide) fun h => absurd h (by decide)
set_option maxRecDepth 100000 in
theorem any_gen (w : World) (g m cap : Nat) (c : Int) (hc : c ≠ 0) : Calls Tryz.prog 26 #[.agg #[.slice (some ⟨g, 0, none⟩) m cap, .int .i64 c]] w fun e w' => e = .returned (.bool true) ∧ Below w.heap.size w w' := by
  have b : (c != 0) = true := bne_iff_ne.2 hc
  clear hc
  go_enter Tryz.func26, Tryz.ntmps26
  go_wp2
  go_ret
  exact ⟨rfl, (Below.refl _ _).alloc (Nat.le_refl _) _⟩
theorem err_c {s : Int} {L : List Nd} {ls : List Lk} {c : Int} (h : errOf s L = some (ls, c)) : c ≠ 0 := by
  unfold errOf at h
  split at h
  · cases h; decide
  · split at h
    · cases h; decide
    · split at h
      · cases h; decide
      · cases h
/-- Is a fault told? -/
theorem any_err (w : World) {w0 : World} {v : Value} {s : Int} {L : List Nd} {z : Bool} (h : RErr2 w0 v (errOf s L)) (hz : (errOf s L).isSome = z) : Calls Tryz.prog 26 #[v] w fun e w' => e = .returned (.bool z) ∧ Below w.heap.size w w' := by
  subst hz
  rcases h with ⟨h, rfl⟩ | ⟨ls, c, g, cg, h, rfl, -⟩
  · rw [h]; exact any_none w
  · have := err_c h
    rw [h]
    exact any_gen w g _ cg c this
theorem rerr_form {w : World} {v : Value} {o : Option (List Lk × Int)} (h : RErr2 w v o) : ∃ (a : Option Addr) (m c : Nat) (z : Int), v = .agg #[.slice a m c, .int .i64 z] := by
  rcases h with ⟨-, rfl⟩ | ⟨ls, c, g, cg, -, rfl, -⟩
  · exact ⟨_, _, _, _, rfl⟩
  · exact ⟨_, _, _, _, rfl⟩

set_option maxRecDepth 100000 in
set_option maxHeartbeats 4000000 in
theorem short_any (w : World) (a : Option Addr) (n cap : Nat) (L : List Nd) (hV : NV w a n cap L) (hT : TagsOk L) (z1 z2 : Bool) (hz1 : (errOf 1 L).isSome = z1) (hz2 : (errOf 2 L).isSome = z2) : Calls Tryz.prog 19 #[.slice a n cap] w fun e w' => e = .returned (.bool (!z1 && !z2)) ∧ Below w.heap.size w w' := by
  have HZ1 : Hid ((errOf 1 L).isSome = z1) := hz1
  have HZ2 : Hid ((errOf 2 L).isSome = z2) := hz2
  clear hz1 hz2
  have HV : Hid (NV w a n cap L) := hV
  have HT : Hid (TagsOk L) := hT
  clear hV hT
  go_enter Tryz.func19, Tryz.ntmps19
  go_wp2_with (go_at_call 25; refine StopQ.out ?_)
  refine ⟨Calls.mono (rsize_any some_zero w a n cap L HV.out HT.out 1) ?_⟩
  rintro e W1 ⟨vf, rfl, hp1, hb1⟩
  obtain ⟨fa, fm, fc, fz, hvf⟩ := rerr_form hp1
  subst hvf
  have HP1 : Hid (RErr2 W1 (.agg #[.slice fa fm fc, .int .i64 fz]) (errOf 1 L)) := hp1
  have HB1 : Hid (Below w.heap.size w W1) := hb1
  clear hp1 hb1
  go_wp2_with (go_at_call 25; refine StopQ.out ?_)
  obtain ⟨W2, hW2⟩ : ∃ W2, W1.alloc (.cells #[.slice fa fm fc, .int .i64 fz] 32) = W2 := ⟨_, rfl⟩
  have hb2 : Below W1.heap.size W1 W2 := by rw [← hW2]; exact (Below.refl _ _).alloc (Nat.le_refl _) _
  have c0 : W2.cell? ⟨W1.heap.size, 0, none⟩ = some (.slice fa fm fc) := by rw [← hW2]; simp
  have c1 : W2.cell? ⟨W1.heap.size, 1, none⟩ = some (.int .i64 fz) := by rw [← hW2]; simp
  rw [hW2]
  have HB2 : Hid (Below w.heap.size w W2) := HB1.out.trans (hb2.mono HB1.out.size)
  have HVT : Hid (NV W2 a n cap L ∧ TagsOk L) := ⟨HV.out.on (HB2.out), HT.out⟩
  refine ⟨Calls.mono (rsize_any some_zero W2 a n cap L HVT.out.1 HVT.out.2 2) ?_⟩
  rintro e W3 ⟨vf, rfl, hp3, hb3⟩
  obtain ⟨ga, gm, gc, gz, hvf⟩ := rerr_form hp3
  subst hvf
  obtain ⟨W4, hW4⟩ : ∃ W4, W3.alloc (.cells #[.slice ga gm gc, .int .i64 gz] 32) = W4 := ⟨_, rfl⟩
  have hb4 : Below W3.heap.size W3 W4 := by rw [← hW4]; exact (Below.refl _ _).alloc (Nat.le_refl _) _
  have d0 : W4.cell? ⟨W3.heap.size, 0, none⟩ = some (.slice ga gm gc) := by rw [← hW4]; simp
  have d1 : W4.cell? ⟨W3.heap.size, 1, none⟩ = some (.int .i64 gz) := by rw [← hW4]; simp
  have hb24 : Below W2.heap.size W2 W4 := hb3.trans (hb4.mono hb3.size)
  have e0 := (hb24.cell (Rp.cell_lt c0)).trans c0
  have e1 := (hb24.cell (Rp.cell_lt c1)).trans c1
  have HP3 : Hid (RErr2 W3 (.agg #[.slice ga gm gc, .int .i64 gz]) (errOf 2 L)) := hp3
  have HB4 : Hid (Below w.heap.size w W4) := HB2.out.trans (hb24.mono HB2.out.size)
  clear hp3 hb3 hb4 hb24 c0 c1 hb2 hW2
  go_wp2_with (go_at_call 26; refine StopQ.out ?_)
  refine ⟨Calls.mono (any_err W4 HP1.out HZ1.out) ?_⟩
  rintro e W5 ⟨rfl, hb5⟩
  have f0 := (hb5.cell (Rp.cell_lt d0)).trans d0
  have f1 := (hb5.cell (Rp.cell_lt d1)).trans d1
  have HB5 : Hid (Below w.heap.size w W5) := HB4.out.trans (hb5.mono HB4.out.size)
  clear hb5 hW4 d0 d1 e0 e1
  cases z1
  · go_wp2_with (go_at_call 26; refine StopQ.out ?_)
    refine ⟨Calls.mono (any_err W5 HP3.out HZ2.out) ?_⟩
    rintro e W6 ⟨rfl, hb6⟩
    have HB6 : Hid (Below w.heap.size w W6) := HB5.out.trans (hb6.mono HB5.out.size)
    clear hb6
    go_wp2
    go_ret
    exact ⟨rfl, HB6.out⟩
  · go_wp2
    go_ret
    exact ⟨rfl, HB5.out⟩
end Go.Proofs.YtoikdpjjcnmgeaaGreatDoor
end

section
/-
  DERIVED. DatasetTwo.
-/
namespace Go.Proofs.YtoikdpjjcnmgeaaGreatDoor
open Go Go.Proofs Go.RowKit
open Wk (Nd NV nds)
open Go.Sort

theorem find_q (W : World) (q : Nd) (h0 : 0 ≤ q.t) (h1 : q.t < 4294967296) (k : Bool) (hk : (fnd q).isSome = k) : Calls Tryz.prog 21 #[.int .u32 q.t] W fun e w' => ∃ a0 a1 a2 a3 a4 a5, e = .returned (.tuple #[.agg #[.int .u32 a0, .int .u32 a1, .int .i64 a2, .string a3, .int .i64 a4, .int .i64 a5], .bool k]) ∧ Below W.heap.size W w' := by
  have h := Tb.rfind_any W q.t.toNat (by omega)
  rw [show ((q.t.toNat : Nat) : Int) = q.t by omega] at h
  refine h.mono ?_
  rintro e w' ⟨rfl, hb⟩
  exact ⟨_, _, _, _, _, _, by rw [← hk]; rfl, hb⟩
theorem im_is {q : Nd} (h : (fnd q).isSome = true ∨ q.v = 18 ∨ q.v = 29) : imN q = q := by
  unfold imN
  rw [if_pos (by rcases h with h | h | h; exact .inr (.inr h); exact .inr (.inl h); exact .inl h)]
theorem bk_id (L : List Nd) : L.map (bkN true) = L := List.map_id _

set_option maxRecDepth 100000 in
set_option maxHeartbeats 8000000 in
theorem two_law (w : World) (a : Option Addr) (n cap : Nat) (L : List Nd) (hV : NV w a n cap L) (hT : TagsOk L) (hE : EG w) : Calls Tryz.prog 4 #[.slice a n cap] w fun e w' => e = .returned (.bool true) ∧ Below w.heap.size w w' := by
  have HV : Hid (NV w a n cap L) := hV
  have HT : Hid (TagsOk L) := hT
  have HE : Hid (EG w) := hE
  obtain ⟨z1, hz1⟩ : ∃ z, (errOf 1 L).isSome = z := ⟨_, rfl⟩
  obtain ⟨z2, hz2⟩ : ∃ z, (errOf 2 L).isSome = z := ⟨_, rfl⟩
  have HZ : Hid ((errOf 1 L).isSome = z1 ∧ (errOf 2 L).isSome = z2) := ⟨hz1, hz2⟩
  clear hV hT hE hz1 hz2
  go_enter Tryz.func4, Tryz.ntmps4
  go_wp2_with (go_at_call 18; refine StopQ.out ?_)
  refine ⟨Calls.mono (alive_any w HE.out) ?_⟩
  rintro e W1 ⟨rfl, hb1⟩
  have HB1 : Hid (Below w.heap.size w W1) := hb1
  clear hb1
  go_wp2_with (go_at_call 19; refine StopQ.out ?_)
  refine ⟨Calls.mono (short_any W1 a n cap L (HV.out.on HB1.out) HT.out z1 z2 HZ.out.1 HZ.out.2) ?_⟩
  rintro e W2 ⟨rfl, hb2⟩
  have HB2 : Hid (Below w.heap.size w W2) := HB1.out.trans (hb2.mono HB1.out.size)
  clear hb2
  rcases hq : (!z1 && !z2) with _ | _
  · go_wp2
    go_ret
    exact ⟨rfl, HB2.out⟩
  obtain ⟨rfl, rfl⟩ : z1 = false ∧ z2 = false := by cases z1 <;> cases z2 <;> simp_all
  have HO : Hid (errOf 1 L = none ∧ errOf 2 L = none) := ⟨by simpa using HZ.out.1, by simpa using HZ.out.2⟩
  clear hq HZ
  go_wp2_with (go_at_call 20; refine StopQ.out ?_)
  refine ⟨Calls.mono (enc_ok W2 a n cap L (HV.out.on HB2.out) HT.out (HE.out.keep HB2.out) 2 HO.out.2) ?_⟩
  rintro e W3 ⟨a3, c3, rfl, hB3, hb3⟩
  have HB3 : Hid (Below w.heap.size w W3) := HB2.out.trans (hb3.out.mono HB2.out.size)
  have HOK2 : Hid (OkD 2 (outB 2 L) L) := by
    have := back_ok HO.out.2 HT.out
    rw [show decide ((2 : Int) = 2) = true from rfl, bk_id] at this
    exact this
  go_wp2_with (go_at_call 10; refine StopQ.out ?_)
  refine ⟨Calls.mono (dec_ok W3 a3 _ c3 (outB 2 L) 2 L hB3.out HOK2.out) ?_⟩
  rintro e W4 ⟨a4, c4, rfl, hN4, hb4⟩
  have HB4 : Hid (Below w.heap.size w W4) := HB3.out.trans (hb4.out.mono HB3.out.size)
  clear hB3 hb3 hb4
  go_wp2_with (go_at_call 20; refine StopQ.out ?_)
  refine ⟨Calls.mono (enc_ok W4 a4 _ c4 L hN4.out HT.out (HE.out.keep HB4.out) 1 HO.out.1) ?_⟩
  rintro e W5 ⟨a5, c5, rfl, hB5, hb5⟩
  have HB5 : Hid (Below w.heap.size w W5) := HB4.out.trans (hb5.out.mono HB4.out.size)
  obtain ⟨M, hM⟩ : ∃ M, L.map (bkN false) = M := ⟨_, rfl⟩
  have hml : M.length = L.length := by rw [← hM, List.length_map]
  have HM : Hid (∀ i (h : i < L.length) (h' : i < M.length), M[i]'h' = imN (L[i]'h)) := by
    subst hM
    intro i h h'
    rw [List.getElem_map]
    rfl
  have HOK1 : Hid (OkD 1 (outB 1 L) M) := by
    have := back_ok HO.out.1 HT.out
    rw [show decide ((1 : Int) = 2) = false from rfl, hM] at this
    exact this
  clear hM
  go_wp2_with (go_at_call 10; refine StopQ.out ?_)
  refine ⟨Calls.mono (dec_ok W5 a5 _ c5 (outB 1 L) 1 M hB5.out HOK1.out) ?_⟩
  rintro e W6 ⟨a6, c6, rfl, hN6, hb6⟩
  have HB6 : Hid (Below w.heap.size w W6) := HB5.out.trans (hb6.out.mono HB5.out.size)
  have hnl := HV.out.len
  have HL : Hid (n = L.length ∧ M.length = n ∧ n ≤ 3518437208780) := ⟨hnl, by omega, HV.out.small⟩
  have hmn : M.length = n := by omega
  rw [hmn] at hN6 ⊢
  have HVW : Hid (NV W6 a n cap L) := HV.out.on HB6.out
  have HN6 : Hid (NV W6 a6 n c6 M) := hN6
  have hsm := HV.out.small
  clear hB5 hb5 hb6 hN4 hN6 hnl hml hmn
  go_wp2
  go_loopw [8] (fun x8 wr => ∃ i : Nat, x8 = .int .i64 (i : Int) ∧ i ≤ n ∧ Hid (Below W6.heap.size W6 wr)) (fun x8 _ => n - (intOf x8).toNat)
  case atStart => exact ⟨0, rfl, by omega, Below.refl _ _⟩
  case round =>
    obtain ⟨i, rfl, hi22, HBR⟩ := hrel
    by_cases hin : i < n
    · have hil : i < L.length := by rw [← HL.out.1]; exact hin
      have him : i < M.length := by rw [HL.out.2.1]; exact hin
      obtain ⟨b1, o1, hr1, l1⟩ := (HVW.out.on HBR.out).lies (by omega)
      obtain ⟨b2, o2, hr2, l2⟩ := (HN6.out.on HBR.out).lies (by omega)
      subst hr1 hr2
      have hy := HM.out i hil him
      have N1 := l1 i hil
      have N2 := l2 i him
      have hTq := HT.out _ (List.getElem_mem hil)
      rw [hy] at N2
      have hI : (i : Int) < (n : Int) := by omega
      generalize L[i]'hil = q at N1 N2 hTq
      obtain ⟨k, hk⟩ : ∃ k, (fnd q).isSome = k := ⟨_, rfl⟩
      have HK : Hid ((fnd q).isSome = k ∧ 0 ≤ q.t ∧ q.t < 4294967296) := ⟨hk, hTq⟩
      have HN1 : Hid _ := N1
      have HN2 : Hid _ := N2
      obtain ⟨q0, -, -, -⟩ := N1
      clear l1 l2 hy N2 hTq hk
      go_wp2_with (go_at_call 21; refine StopQ.out ?_)
      refine ⟨Calls.mono (find_q _ q HK.out.2.1 HK.out.2.2 k HK.out.1) ?_⟩
      rintro e W7 ⟨e0, e1, e2, e3, e4, e5, rfl, hb7⟩
      obtain ⟨W8, hW8⟩ : ∃ W8, W7.alloc (.cells #[.int .u32 e0, .int .u32 e1, .int .i64 e2, .string e3, .int .i64 e4, .int .i64 e5] 50) = W8 := ⟨_, rfl⟩
      have hb8 := hb7.trans (((Below.refl W7.heap.size W7).alloc (Nat.le_refl _) (.cells #[.int .u32 e0, .int .u32 e1, .int .i64 e2, .string e3, .int .i64 e4, .int .i64 e5] 50)).mono hb7.size)
      rw [hW8] at hb8
      have HX8 : Hid (Below W6.heap.size W6 W8) := HBR.out.trans (hb8.mono HBR.out.size)
      obtain ⟨x0, x1, x2, x3⟩ := HN1.out
      obtain ⟨y0, y1, y2, y3⟩ := HN2.out
      have x0 := (hb8.cell (Rp.cell_lt x0)).trans x0
      have x1 := (hb8.cell (Rp.cell_lt x1)).trans x1
      have x2 := (hb8.cell (Rp.cell_lt x2)).trans x2
      have x3 := (hb8.cell (Rp.cell_lt x3)).trans x3
      have y0 := (hb8.cell (Rp.cell_lt y0)).trans y0
      have y1 := (hb8.cell (Rp.cell_lt y1)).trans y1
      have y2 := (hb8.cell (Rp.cell_lt y2)).trans y2
      have y3 := (hb8.cell (Rp.cell_lt y3)).trans y3
      have hkk := HK.out.1
      have ht2 : (imN q).t = q.t := bkN_t false q
      have hn2 : (imN q).n = q.n := bkN_n false q
      rw [ht2] at y0
      rw [hn2] at y2
      clear hb8 hb7 HN1 HN2 HK q0 ht2 hn2
      cases k with
      | true =>
        rw [im_is (.inl hkk)] at y1 y3
        clear hkk
        go_wp2
        go_quiet (fail)
        go_wp2
        go_roundw
        case rel => exact ⟨i + 1, by go_num, by omega, Wk.below_drw HX8.out _⟩
        case measure => simp [intOf]; omega
      | false =>
        by_cases h18 : q.v = 18
        · rw [im_is (.inr (.inl h18))] at y1 y3
          rw [h18] at x1 y1
          clear hkk h18
          go_wp2
          go_quiet (fail)
          go_wp2
          go_roundw
          case rel => exact ⟨i + 1, by go_num, by omega, Wk.below_drw HX8.out _⟩
          case measure => simp [intOf]; omega
        · by_cases h29 : q.v = 29
          · rw [im_is (.inr (.inr h29))] at y1 y3
            rw [h29] at x1 y1
            clear hkk h29 h18
            go_wp2
            go_quiet (fail)
            go_wp2
            go_roundw
            case rel => exact ⟨i + 1, by go_num, by omega, Wk.below_drw HX8.out _⟩
            case measure => simp [intOf]; omega
          · have b18 : (q.v == 18) = false := beq_eq_false_iff_ne.2 h18
            have b29 : (q.v == 29) = false := beq_eq_false_iff_ne.2 h29
            clear hkk h29 h18 y1 y3
            go_wp2
            go_quiet (fail)
            go_wp2
            go_roundw
            case rel => exact ⟨i + 1, by go_num, by omega, Wk.below_drw HX8.out _⟩
            case measure => simp [intOf]; omega
    · obtain rfl : i = n := by omega
      have hI : ¬ (i : Int) < (i : Int) := by omega
      go_wp2
      go_ret
      exact ⟨rfl, HB6.out.trans (HBR.out.mono HB6.out.size)⟩
end Go.Proofs.YtoikdpjjcnmgeaaGreatDoor
end

section
/-
  DERIVED. Nodes that came in, read.
-/
namespace Go.Proofs.YtoikdpjjcnmgeaaGreatDoor
open Go Go.Proofs Go.RowKit
open Wk (Nd NV)

section
variable {H : Type} {enc : TypeId × Value → H} {W : World} {base : Nat} {spare : Nat → Bool} {held : Bool}

/-- These cells read as something of that type; nothing in it is longer than a machine holds. -/
def Rd (enc : TypeId × Value → H) (W : World) (base : Nat) (spare : Nat → Bool) (held : Bool) (t : TypeId) (cs : List Value) : Prop :=
  ∃ fuel d p, DataW.trod enc Tryz.prog W base spare held fuel t cs = some (d, p) ∧ ∀ n ∈ d.weights Tryz.prog t, n ≤ reachBytes

theorem weights_all {t : TypeId} : ∀ {l : List (DataW H)} {i : Nat} {d : DataW H}, l[i]? = some d → ∀ n ∈ d.weights Tryz.prog t, n ∈ DataW.weightsAll Tryz.prog t l
  | [], _, _, h, _, _ => by simp at h
  | x :: l, 0, d, h, n, hn => by simp at h; subst h; simp [DataW.weightsAll, hn]
  | x :: l, i + 1, d, h, n, hn => by simp at h; simp only [DataW.weightsAll, List.mem_append]; exact .inr (weights_all h n hn)

theorem Rd.field {t : TypeId} {fs : Array Field} {cs : List Value} (h : Rd enc W base spare held t cs) (ht : Tryz.prog.underlying t = some (.struct fs)) (i : Nat) (f : Field) (hf : fs[i]? = some f) : Rd enc W base spare held f.type ((cs.drop f.offset).take (Tryz.prog.cellsOf f.type)) := by
  obtain ⟨fu, d, p, h, hw⟩ := h
  obtain ⟨xs, n, rfl, hx, hl, hxl, hall⟩ := DataW.trod_struct ht h
  have hi : i < fs.size := (Array.getElem?_eq_some_iff.1 hf).1
  obtain ⟨b, hb⟩ : ∃ b, xs[i]? = some b := ⟨xs[i]'(by omega), List.getElem?_eq_getElem (by omega)⟩
  have h1 := hall i f hf
  rw [hb] at h1
  refine ⟨n, b.1, b.2, h1, fun m hm => hw m ?_⟩
  have hd : d = .agg (xs.map (·.1)) := congrArg Prod.fst hx
  subst hd
  simp only [DataW.weights, ht]
  exact DataW.weights_mem_each (j := i) (t := f.type) (d := b.1) (by simp [hf]) (by simp [hb]) m hm

theorem Rd.at {t ty : TypeId} {fs : Array Field} {cs : List Value} (h : Rd enc W base spare held t cs) (ht : Tryz.prog.underlying t = some (.struct fs)) (i o n : Nat) (hf : (fs[i]?).map (fun f => (f.type, f.offset)) = some (ty, o)) (hc : Tryz.prog.cellsOf ty = n) : Rd enc W base spare held ty ((cs.drop o).take n) := by
  obtain ⟨f, hf1, hf2⟩ := Option.map_eq_some_iff.1 hf
  simp only [Prod.mk.injEq] at hf2
  have := h.field ht i f hf1
  rw [hf2.1, hf2.2, hc] at this
  exact this
/-- A slice, element by element. -/
theorem Rd.slice {t e : TypeId} {m : Nat} {cs : List Value} (h : Rd enc W base spare held t cs) (ht : Tryz.prog.underlying t = some (.slice e)) (hm : Tryz.prog.cellsOf e = m) (hm0 : 0 < m) :
    ∃ ao n cap, cs = [.slice ao n cap] ∧ n * Tryz.prog.bytesOf e ≤ reachBytes ∧ n ≤ cap ∧ (0 < n → ∃ b off, ao = some ⟨b, off, none⟩ ∧ ∀ i, i < n → ∃ es : List Value, es.length = m ∧ W.rangeAt b (off + i * m) es ∧ Rd enc W base spare held e es) := by
  obtain ⟨fu, d, p, h, hw⟩ := h
  rcases DataW.trod_slice ht h with ⟨rfl, _⟩ | ⟨a, len, cap, elems, rest, n, rfl, rfl, hx, hb, hlc, hcm, hel, hall, _, _⟩
  · exact ⟨none, 0, 0, rfl, by simp, by omega, fun h => by omega⟩
  · have hd : d = .slice (elems.map (·.1)) (rest.map (·.1)) := congrArg Prod.fst hx
    subst hd
    simp only [DataW.weights, ht] at hw
    have hwl := hw _ (List.mem_cons_self ..)
    refine ⟨some a, len, cap, rfl, ?_, hlc, fun hn => ?_⟩
    · simp only [List.length_map] at hwl
      exact Nat.le_trans (Nat.mul_le_mul_right _ (by omega)) hwl
    · rw [hm] at hall
      have hone : ∀ i, i < len → ∃ es x, W.cells? base (a.add (i * m)) m = some es ∧ DataW.trod enc Tryz.prog W base spare held n e es = some x ∧ elems[i]? = some x := fun i hi => by
        have h1 := hall i hi
        rw [List.getElem?_eq_getElem (by omega)] at h1
        obtain ⟨es, he, hx⟩ := Option.bind_eq_some_iff.1 h1
        exact ⟨es, _, he, hx, List.getElem?_eq_getElem (by omega)⟩
      obtain ⟨es0, x0, hc0, _, _⟩ := hone 0 hn
      obtain ⟨b, off, sp⟩ := a
      have hs : sp = none := by
        have h3 := World.cells?_some hc0
        have h4 := h3.2.2 0 hm0
        rw [List.getElem?_eq_getElem (by omega)] at h4
        have := World.cell?_spot h4
        simpa [Addr.add] using this
      subst hs
      refine ⟨b, off, rfl, fun i hi => ?_⟩
      obtain ⟨es, x, hc, hx, hei⟩ := hone i hi
      have h3 := World.cells?_some hc
      refine ⟨es, h3.2.1, fun j v hv => ?_, n, x.1, x.2, hx, fun w hww => hw w ?_⟩
      · have hj : j < m := by have := (List.getElem?_eq_some_iff.1 hv).1; omega
        have h4 := h3.2.2 j hj
        rw [Addr.add_mid, Addr.add_mid] at h4
        exact h4.trans hv
      · refine List.mem_cons_of_mem _ (List.mem_append.2 (.inl (weights_all (i := i) ?_ w hww)))
        simp [hei]

theorem cells3 : Tryz.prog.cellsOf 3 = 1 := by kernel_rfl
theorem cells9 : Tryz.prog.cellsOf 9 = 1 := by kernel_rfl
theorem cells34 : Tryz.prog.cellsOf 47 = 1 := by kernel_rfl
theorem cells35 : Tryz.prog.cellsOf 48 = 1 := by kernel_rfl
theorem Rd.node {cs : List Value} (h : Rd enc W base spare held 54 cs) (hl : cs.length = 4) : ∃ a : Nd, cs = a.cs ∧ (0 ≤ a.t ∧ a.t < 4294967296) ∧ (-9223372036854775808 ≤ a.n ∧ a.n ≤ 9223372036854775807) ∧ a.s.size ≤ 140737488351232 := by
  match cs, hl with
  | [c0, c1, c2, c3], _ =>
    have r0 : Rd enc W base spare held 47 [c0] := h.at Tryz.underlying54 0 0 1 rfl cells34
    have r1 : Rd enc W base spare held 48 [c1] := h.at Tryz.underlying54 1 1 1 rfl cells35
    have r2 : Rd enc W base spare held 3 [c2] := h.at Tryz.underlying54 2 2 1 rfl cells3
    have r3 : Rd enc W base spare held 9 [c3] := h.at Tryz.underlying54 3 3 1 rfl cells9
    obtain ⟨f0, d0, p0, q0, -⟩ := r0
    obtain ⟨f1, d1, p1, q1, -⟩ := r1
    obtain ⟨f2, d2, p2, q2, -⟩ := r2
    obtain ⟨f3, d3, p3, q3, w3⟩ := r3
    obtain ⟨t, e0, -, hw0⟩ := DataW.trod_int Tryz.underlying47 q0
    obtain ⟨v, e1, -, -⟩ := DataW.trod_int Tryz.underlying48 q1
    obtain ⟨z, e2, -, hw2⟩ := DataW.trod_int Tryz.underlying3 q2
    obtain ⟨s, e3, hx3, -⟩ := DataW.trod_string Tryz.underlying9 q3
    simp only [List.cons.injEq, and_true] at e0 e1 e2 e3
    subst e0 e1 e2 e3
    simp only [Lit.wf, Bool.and_eq_true, decide_eq_true_eq, show IntKind.u32.min = 0 from rfl, show IntKind.u32.max = 4294967295 from rfl] at hw0
    simp only [Lit.wf, Bool.and_eq_true, decide_eq_true_eq, show IntKind.i64.min = -9223372036854775808 from rfl, show IntKind.i64.max = 9223372036854775807 from rfl] at hw2
    refine ⟨⟨t, v, z, s⟩, rfl, ⟨hw0.1, by simp only; omega⟩, hw2, ?_⟩
    have hd : d3 = .lit (.string s.data.toList) := congrArg Prod.fst hx3
    subst hd
    have := w3 s.data.toList.length (by simp [DataW.weights])
    rw [Array.length_toList] at this
    exact this
theorem Rd.nodes {v : Value} (h : Rd enc W base spare held 25 [v]) : ∃ a n cap L, v = .slice a n cap ∧ NV W a n cap L ∧ TagsOk L ∧ ∀ y ∈ L, y.s.size ≤ 140737488351232 := by
  obtain ⟨ao, n, cap, hv, hb, hc, hel⟩ := h.slice Tryz.underlying25 (m := 4) (by kernel_rfl) (by omega)
  simp only [List.cons.injEq, and_true] at hv
  subst hv
  rw [show Tryz.prog.bytesOf 54 = 40 by kernel_rfl, show reachBytes = 140737488351232 from rfl] at hb
  by_cases hn : 0 < n
  · obtain ⟨b, off, rfl, he⟩ := hel hn
    have hz : ∀ i, ∃ q : Nd, i < n → (∀ k u, q.cs[k]? = some u → W.cell? ⟨b, off + i * 4 + k, none⟩ = some u) ∧ (0 ≤ q.t ∧ q.t < 4294967296) ∧ (-9223372036854775808 ≤ q.n ∧ q.n ≤ 9223372036854775807) ∧ q.s.size ≤ 140737488351232 := fun i => by
      by_cases hi : i < n
      · obtain ⟨es, h1, h2, h3⟩ := he i hi
        obtain ⟨q, rfl, k1, k2, k3⟩ := h3.node h1
        exact ⟨q, fun _ => ⟨fun k u hu => h2 k u hu, k1, k2, k3⟩⟩
      · exact ⟨⟨0, 0, 0, ⟨#[]⟩⟩, fun h => absurd h hi⟩
    obtain ⟨F, hF⟩ := Classical.axiomOfChoice hz
    have hmem : ∀ y ∈ (List.range n).map F, ∃ i, i < n ∧ F i = y := fun y hy => by
      obtain ⟨i, hi, rfl⟩ := List.mem_map.1 hy
      exact ⟨i, List.mem_range.1 hi, rfl⟩
    refine ⟨_, n, cap, (List.range n).map F, rfl, ⟨by simp, hc, by omega, fun _ => ⟨b, off, rfl, fun i hi => ?_⟩, fun y hy => ?_⟩, fun y hy => ?_, fun y hy => ?_⟩
    · have hi' : i < n := by simpa using hi
      have e : ((List.range n).map F)[i]'hi = F i := by simp
      rw [e]
      have hk := (hF i hi').1
      exact ⟨hk 0 _ rfl, hk 1 _ rfl, hk 2 _ rfl, hk 3 _ rfl⟩
    · obtain ⟨i, hi, rfl⟩ := hmem y hy
      exact (hF i hi).2.2.1
    · obtain ⟨i, hi, rfl⟩ := hmem y hy
      exact (hF i hi).2.1
    · obtain ⟨i, hi, rfl⟩ := hmem y hy
      exact (hF i hi).2.2.2
  · obtain rfl : n = 0 := by omega
    exact ⟨ao, 0, cap, [], rfl, ⟨rfl, Nat.zero_le _, by omega, fun h => absurd h (by omega), fun y hy => by simp at hy⟩, fun y hy => by simp at hy, fun y hy => by simp at hy⟩
end
end Go.Proofs.YtoikdpjjcnmgeaaGreatDoor
end

section
/-
  DERIVED. A slice that came in with no address is nil.
-/
namespace Go.Proofs.YtoikdpjjcnmgeaaGreatDoor
open Go Go.Proofs Go.RowKit
theorem Rd.nocap {H : Type} {enc : TypeId × Value → H} {W : World} {base : Nat} {spare : Nat → Bool} {held : Bool} {ao : Option Addr} {n cap : Nat} (h : Rd enc W base spare held 25 [.slice ao n cap]) : ao = none → cap = 0 := by
  obtain ⟨fu, d, p, h, -⟩ := h
  rcases DataW.trod_slice Tryz.underlying25 h with ⟨e, _⟩ | ⟨a, len, c, elems, rest, m, -, e, -⟩
  · cases e; exact fun _ => rfl
  · cases e; intro e2; cases e2
end Go.Proofs.YtoikdpjjcnmgeaaGreatDoor
end

section
/-
  DERIVED. Bytes that are lent, and what is left of them.
-/
namespace Go.Proofs.YtoikdpjjcnmgeaaGreatDoor.Le
open Go Go.Proofs Go.RowKit

/-- Bytes that lie there. -/
def At (w : World) (b off : Nat) (bs : List Nat) : Prop := (∀ k, k < bs.length → w.cell? ⟨b, off + k, none⟩ = some (.int .u8 (bs.getD k 0 : Nat))) ∧ (∀ x ∈ bs, x < 256)
/-- A slice value, read: these bytes. -/
def V (w : World) (v : Value) (bs : List Nat) : Prop :=
  (∃ ao cap, v = .slice ao 0 cap ∧ bs = []) ∨ (∃ b off cap, v = .slice (some ⟨b, off, none⟩) bs.length cap ∧ 0 < bs.length ∧ bs.length ≤ cap ∧ At w b off bs)


theorem info5s : (Tryz.prog.info? 5).map (fun i => (i.zero, i.size, i.bytes)) = some (some (.int .u8 0), 1, 1) := by kernel_rfl

def u8s (bs : List Nat) : List Value := bs.map fun (b : Nat) => Value.int .u8 (b : Int)

/-- Bytes in memory of our own, from block B on. -/
def Own (w : World) (B : Nat) (v : Value) (bs : List Nat) : Prop := w.ownsRow B 5 1 v bs.length (u8s bs) ∧ ∀ x ∈ bs, x < 256

theorem At.next {w w' : World} {b off : Nat} {bs : List Nat} (h : At w b off bs) (hb : Below w.heap.size w w') : At w' b off bs :=
  ⟨fun k hk => (hb.cell (World.block_lt_of_cell? w ⟨b, off + k, none⟩ (h.1 k hk))).trans (h.1 k hk), h.2⟩

theorem V.next {w w' : World} {v : Value} {bs : List Nat} (h : V w v bs) (hb : Below w.heap.size w w') : V w' v bs := by
  rcases h with h | ⟨b, off, cap, rfl, hp, hc, h⟩
  · exact .inl h
  · exact .inr ⟨b, off, cap, rfl, hp, hc, h.next hb⟩

theorem u8s_length (bs : List Nat) : (u8s bs).length = bs.length := by simp [u8s]

theorem u8s_get (bs : List Nat) (k : Nat) (hk : k < bs.length) : (u8s bs)[k]? = some (.int .u8 (bs.getD k 0 : Nat)) := by
  simp [u8s, List.getElem?_eq_getElem hk]

theorem u8s_take_succ {bs : List Nat} {k : Nat} (hk : k < bs.length) : u8s (bs.take k) ++ [.int .u8 (bs.getD k 0 : Nat)] = u8s (bs.take (k + 1)) := by
  rw [List.take_add_one, List.getElem?_eq_getElem hk]
  unfold u8s
  rw [List.map_append, List.getD_eq_getElem?_getD, List.getElem?_eq_getElem hk]
  rfl

theorem u8s_append (a b : List Nat) : u8s (a ++ b) = u8s a ++ u8s b := by simp [u8s]

theorem V.form {w : World} {v : Value} {bs : List Nat} (h : V w v bs) : ∃ ao cap, v = .slice ao bs.length cap ∧ (0 < bs.length → ∃ b off, ao = some ⟨b, off, none⟩ ∧ At w b off bs) ∧ ∀ x ∈ bs, x < 256 := by
  rcases h with ⟨a1, c1, rfl, rfl⟩ | ⟨b1, o1, c1, rfl, hp1, _, h1⟩
  · exact ⟨_, _, rfl, by simp, by simp⟩
  · exact ⟨_, _, rfl, fun _ => ⟨_, _, rfl, h1⟩, h1.2⟩

set_option maxRecDepth 100000 in
/-- Lend. -/
theorem lend_any {w : World} {v : Value} {bs : List Nat} (h : V w v bs) (hl : bs.length ≤ 140737488351232) :
    Calls Tryz.prog 9 #[v] w fun e w' => e = .returned (.slice (some ⟨w.heap.size, 0, none⟩) bs.length (bs.length + 3)) ∧ Own w' w.heap.size (.slice (some ⟨w.heap.size, 0, none⟩) (bs.length + 3) (bs.length + 3)) (bs ++ [160, 161, 162]) ∧ Below w.heap.size w w' := by
  obtain ⟨ao, cap, rfl, hf, hbytes⟩ := h.form
  obtain ⟨n, hn⟩ : ∃ n, n = bs.length := ⟨_, rfl⟩
  rw [← hn] at hl
  rw [← hn]
  have HN : Hid (n = bs.length) := hn
  have HF : Hid (0 < n → ∃ b off, ao = some ⟨b, off, none⟩ ∧ At w b off bs) := by rw [hn]; exact hf
  clear hn hf h
  obtain ⟨i0, hi, hz0, hz1, hz2⟩ := info_parts info5s
  obtain ⟨B, hB⟩ : ∃ B, w.heap.size = B := ⟨_, rfl⟩
  rw [hB]
  have HB : Hid (B = w.heap.size) := hB.symm
  go_enter Tryz.func9, Tryz.ntmps9
  go_wp2_with (first | (at_make; refine wpList_make_own _ rfl _ _ 22 rfl B 5 i0 (.int .u8 0) 1 Tryz.underlying22 hi hz0 hz1 .i64 .i64 _ (n + 3) rfl rfl ?_ ?_ ?_ ?_ ?_) | fail)
  · omega
  · rw [hz2]; omega
  · unfold maxLen; omega
  · omega
  · intro w1 hown1 hgrow1
    have hbe1 : Below B w w1 := (Below.refl B w).grown hgrow1 (by omega) (by simp)
    clear hgrow1
    go_wp2
    go_loopw [3, 4] (fun v i wr => ∃ k : Nat, k ≤ n ∧ i = .int .i64 k ∧ v = .slice (some ⟨B, 0, none⟩) k (n + 3) ∧ wr.ownsRow B 5 1 (.slice (some ⟨B, 0, none⟩) k (n + 3)) k (u8s (bs.take k)) ∧ Below B w wr) (fun _ i _ => n - (intOf i).toNat)
    case atStart => exact ⟨0, Nat.zero_le _, rfl, rfl, hown1, hbe1⟩
    case round =>
      clear hown1 hbe1
      obtain ⟨k, hk, rfl, rfl, hown, hbe⟩ := hrel
      have HBr : Hid (B ≤ wr.heap.size) := by have := hbe.size; rw [HB.out]; exact this
      by_cases hkn : k < n
      · obtain ⟨b, off, rfl, hb⟩ := HF.out (by omega)
        have hkl : k < bs.length := by rw [← HN.out]; exact hkn
        obtain ⟨y, HY, hcy⟩ : ∃ y, Hid (y = bs.getD k 0) ∧ wr.cell? ⟨b, off + k, none⟩ = some (.int .u8 (y : Int)) := ⟨_, rfl, (hbe.cell (p := ⟨b, off + k, none⟩) (by rw [HB.out]; exact World.block_lt_of_cell? w _ (hb.1 k hkl))).trans (hb.1 k hkl)⟩
        clear hkl
        go_wp2_with (first | (at_builtin; refine wpList_append_fits _ rfl _ _ 22 rfl B 5 i0 1 Tryz.underlying22 hi hz1 B k (n + 3) _ rfl (hown.alloc _) ⟨wr.heap.size, 0, none⟩ 1 1 [.int .u8 (y : Int)] rfl rfl ?_ ?_ ?_ ?_) | fail)
        · exact cell_one_new _ _ _
        · intro u hu; simp at hu; subst hu; rfl
        · omega
        · intro w2 hown' hgrow
          have hbe' : Below B w w2 := (hbe.alloc HBr.out _).grown hgrow (by have := HBr.out; simp; omega) (fun j hj => by cases hj; omega)
          rw [HY.out, u8s_take_succ (by rw [← HN.out]; exact hkn)] at hown'
          clear hgrow hown hcy
          go_wp2
          go_roundw
          case rel => exact ⟨k + 1, by omega, by go_num, rfl, hown', hbe'⟩
          case measure => simp [intOf]; omega
      · have hkn' : k = n := by omega
        subst hkn'
        rw [HN.out, List.take_length, ← HN.out] at hown
        go_wp2
        go_loopw [3, 5] (fun v i wr => ∃ j : Nat, j ≤ 3 ∧ i = .int .i64 j ∧ v = .slice (some ⟨B, 0, none⟩) (k + j) (k + 3) ∧ wr.ownsRow B 5 1 (.slice (some ⟨B, 0, none⟩) (k + j) (k + 3)) (k + j) (u8s (bs ++ [160, 161, 162].take j)) ∧ Below B w wr) (fun _ i _ => 3 - (intOf i).toNat)
        case atStart => exact ⟨0, by omega, rfl, rfl, by simpa using hown, hbe⟩
        case round =>
          clear hown hbe HBr
          obtain ⟨j, hj, rfl, rfl, hown, hbe⟩ := hrel
          have HBr : Hid (B ≤ wr.heap.size) := by have := hbe.size; rw [HB.out]; exact this
          by_cases hj3 : j < 3
          · have hm : (160 + (j : Int)) % 256 = 160 + (j : Int) := by omega
            go_wp2_with (first | (at_builtin; refine wpList_append_fits _ rfl _ _ 22 rfl B 5 i0 1 Tryz.underlying22 hi hz1 B (k + j) (k + 3) _ rfl (hown.alloc _) ⟨wr.heap.size, 0, none⟩ 1 1 [.int .u8 (160 + (j : Int))] rfl rfl ?_ ?_ ?_ ?_) | fail)
            · exact cell_one_new _ _ _
            · intro u hu; simp at hu; subst hu; rfl
            · omega
            · intro w2 hown' hgrow
              have hbe' : Below B w w2 := (hbe.alloc HBr.out _).grown hgrow (by have := HBr.out; simp; omega) (fun j hj => by cases hj; omega)
              have he : u8s (bs ++ [160, 161, 162].take j) ++ [.int .u8 (160 + (j : Int))] = u8s (bs ++ [160, 161, 162].take (j + 1)) := by
                rw [u8s_append, u8s_append, List.append_assoc]
                congr 1
                rcases (show j = 0 ∨ j = 1 ∨ j = 2 by omega) with rfl | rfl | rfl <;> rfl
              rw [he] at hown'
              clear hgrow hown hm he
              go_wp2
              go_roundw
              case rel => exact ⟨j + 1, by omega, by go_num, by congr 1, hown', hbe'⟩
              case measure => simp [intOf]; omega
          · have hj' : j = 3 := by omega
            subst hj'
            go_wp2
            go_ret
            refine ⟨rfl, ⟨?_, ?_⟩, hbe⟩
            · simpa [← HN.out] using hown
            · intro x hx
              rcases List.mem_append.1 hx with hx | hx
              · exact hbytes x hx
              · simp at hx; omega

theorem bytes_other (w : World) (a1 a2 : Option Addr) (n1 n2 c1 c2 : Nat) (h : n1 ≠ n2) :
    Calls Tryz.prog 27 #[.slice a1 n1 c1, .slice a2 n2 c2] w fun e w' => e = .returned (.bool false) ∧ w = w' := by
  have h2 : ((n1 : Int) != (n2 : Int)) = true := by simp; omega
  go_enter Tryz.func27, Tryz.ntmps27
  go_wp2
  all_goals first | omega | (go_ret; exact ⟨rfl, rfl⟩)

theorem bytes_empty (w : World) (a1 a2 : Option Addr) (c1 c2 : Nat) :
    Calls Tryz.prog 27 #[.slice a1 0 c1, .slice a2 0 c2] w fun e w' => e = .returned (.bool true) ∧ w = w' := by
  go_enter Tryz.func27, Tryz.ntmps27
  go_wp2
  refine wp_loop_rounds 1 ?_
  rw [rounds_succ]
  go_wp2
  go_ret
  exact ⟨rfl, rfl⟩

theorem take_succ_eq {l1 l2 : List Nat} {k : Nat} (h1 : k < l1.length) (h2 : k < l2.length) : (l1.take (k + 1) = l2.take (k + 1)) ↔ (l1.take k = l2.take k ∧ l1.getD k 0 = l2.getD k 0) := by
  rw [List.take_add_one, List.take_add_one, List.getElem?_eq_getElem h1, List.getElem?_eq_getElem h2, List.getD_eq_getElem?_getD, List.getD_eq_getElem?_getD, List.getElem?_eq_getElem h1, List.getElem?_eq_getElem h2]
  simp only [Option.toList_some, Option.getD_some]
  constructor
  · intro h
    have := List.append_inj' h (by simp)
    simpa using this
  · rintro ⟨ha, hb⟩
    rw [ha, hb]

set_option maxRecDepth 100000 in
theorem bytes_some (w : World) (b1 o1 c1 b2 o2 c2 n : Nat) (l1 l2 : List Nat) (h1 : At w b1 o1 l1) (h2 : At w b2 o2 l2) (hn1 : n = l1.length) (hn2 : n = l2.length) (hl : n ≤ 140737488351232) :
    Calls Tryz.prog 27 #[.slice (some ⟨b1, o1, none⟩) n c1, .slice (some ⟨b2, o2, none⟩) n c2] w fun e w' => e = .returned (.bool (decide (l1 = l2))) ∧ ∃ m, w' = w.drewN m := by
  have HN1 : Hid (n = l1.length) := hn1
  have HN2 : Hid (n = l2.length) := hn2
  clear hn1 hn2
  go_enter Tryz.func27, Tryz.ntmps27
  go_wp2
  go_loopw [5] (fun i wr => ∃ k m : Nat, k ≤ n ∧ i = .int .i64 k ∧ wr = w.drewN m ∧ Hid (l1.take k = l2.take k)) (fun i _ => n - (intOf i).toNat)
  case atStart => exact ⟨0, 0, Nat.zero_le _, rfl, rfl, by simp [Hid]⟩
  case round =>
    obtain ⟨k, m, hk, rfl, rfl, HT⟩ := hrel
    by_cases hkn : k < n
    · obtain ⟨y1, HY1, hc1⟩ : ∃ y, Hid (y = l1.getD k 0) ∧ w.cell? ⟨b1, o1 + k, none⟩ = some (.int .u8 (y : Int)) := ⟨_, rfl, h1.1 k (by rw [← HN1.out]; exact hkn)⟩
      obtain ⟨y2, HY2, hc2⟩ : ∃ y, Hid (y = l2.getD k 0) ∧ w.cell? ⟨b2, o2 + k, none⟩ = some (.int .u8 (y : Int)) := ⟨_, rfl, h2.1 k (by rw [← HN2.out]; exact hkn)⟩
      have HS := take_succ_eq (l1 := l1) (l2 := l2) (k := k) (by rw [← HN1.out]; exact hkn) (by rw [← HN2.out]; exact hkn)
      rw [← HY1.out, ← HY2.out] at HS
      by_cases hy : y1 = y2
      · have HS' : Hid (l1.take (k + 1) = l2.take (k + 1)) := HS.2 ⟨HT.out, hy⟩
        subst hy
        clear HS
        go_wp2
        go_quiet (fail)
        go_wp2
        go_roundw
        case rel => exact ⟨k + 1, _, by omega, by go_num, rfl, HS'⟩
        case measure => simp [intOf]; omega
      · have HS' : Hid (decide (l1 = l2) = false) := by
          show _ = _
          simp only [decide_eq_false_iff_not]
          intro he
          exact hy (HS.1 (by rw [he])).2
        have hy' : ((y1 : Int) != (y2 : Int)) = true := by simp; omega
        clear HS
        go_wp2
        go_quiet (fail)
        go_wp2
        go_ret
        exact ⟨by rw [HS'.out]; rfl, _, World.drewN_drewN ..⟩
    · have hkn' : k = n := by omega
      subst hkn'
      have HE : Hid (decide (l1 = l2) = true) := by
        show _ = _
        have := HT.out
        rw [HN1.out, List.take_length, ← HN1.out, HN2.out, List.take_length] at this
        simp [this]
      go_wp2
      go_ret
      exact ⟨by rw [HE.out]; rfl, _, rfl⟩

/-- Bytes: held against each other. -/
theorem bytes_any {w : World} {v1 v2 : Value} {l1 l2 : List Nat} (h1 : V w v1 l1) (h2 : V w v2 l2) (hl : l1.length ≤ 140737488351232) :
    Calls Tryz.prog 27 #[v1, v2] w fun e w' => e = .returned (.bool (decide (l1 = l2))) ∧ ∃ m, w' = w.drewN m := by
  by_cases hlen : l1.length = l2.length
  · rcases h1 with ⟨a1, c1, rfl, rfl⟩ | ⟨b1, o1, c1, rfl, hp1, _, h1⟩
    · rcases h2 with ⟨a2, c2, rfl, rfl⟩ | ⟨b2, o2, c2, rfl, hp2, _, h2⟩
      · refine (bytes_empty w a1 a2 c1 c2).mono ?_; rintro e w' ⟨rfl, rfl⟩; exact ⟨by simp, 0, rfl⟩
      · simp at hlen; omega
    · rcases h2 with ⟨a2, c2, rfl, rfl⟩ | ⟨b2, o2, c2, rfl, hp2, _, h2⟩
      · exact absurd hlen (by simp; intro h; rw [h] at hp1; exact absurd hp1 (by decide))
      · rw [← hlen]
        exact bytes_some w b1 o1 c1 b2 o2 c2 _ l1 l2 h1 h2 rfl hlen hl
  · have hd : decide (l1 = l2) = false := by simp; intro h; exact hlen (by rw [h])
    rw [hd]
    rcases h1 with ⟨a1, c1, rfl, rfl⟩ | ⟨b1, o1, c1, rfl, hp1, _, h1⟩ <;> rcases h2 with ⟨a2, c2, rfl, rfl⟩ | ⟨b2, o2, c2, rfl, hp2, _, h2⟩ <;> (refine (bytes_other w _ _ _ _ _ _ hlen).mono ?_; rintro e w' ⟨rfl, rfl⟩; exact ⟨rfl, 0, rfl⟩)



theorem ownsRow_below {w w' : World} {A base : Nat} {e : TypeId} {size : Nat} {v : Value} {n : Nat} {xs : List Value} (h : w.ownsRow base e size v n xs) (hb : Below A w w') (hA : w.heap.size ≤ A) : w'.ownsRow base e size v n xs := by
  refine ⟨h.1, ?_⟩
  rcases h.2 with h2 | ⟨g, cap, cur, hv, hg, hh, r⟩
  · exact .inl h2
  · have hlt : g < w.heap.size := (Array.getElem?_eq_some_iff.1 hh).1
    exact .inr ⟨g, cap, cur, hv, hg, (hb.block g (by omega)).trans hh, r⟩

/-- What was lent, with its marks. -/
def Lent (w : World) (B g : Nat) (bs : List Nat) : Prop := Own w B (.slice (some ⟨g, 0, none⟩) (bs.length + 3) (bs.length + 3)) (bs ++ [160, 161, 162])

theorem Lent.next {w w' : World} {B g : Nat} {bs : List Nat} (h : Lent w B g bs) (hb : Below w.heap.size w w') : Lent w' B g bs := ⟨ownsRow_below h.1 hb (Nat.le_refl _), h.2⟩

theorem Lent.cell {w : World} {B g : Nat} {bs : List Nat} (h : Lent w B g bs) (k : Nat) (hk : k < bs.length + 3) : w.cell? ⟨g, k, none⟩ = some (.int .u8 ((bs ++ [160, 161, 162]).getD k 0 : Nat)) := by
  have h1 := h.1
  simp only [List.length_append, List.length_cons, List.length_nil] at h1
  have := h1.cellAt (g := g) (cap := bs.length + 3) k (by omega)
  rw [this, u8s_get _ k (by simpa using hk)]

theorem Lent.v {w : World} {B g : Nat} {bs : List Nat} (h : Lent w B g bs) {cap : Nat} (hcap : bs.length ≤ cap) : V w (.slice (some ⟨g, 0, none⟩) bs.length cap) bs := by
  by_cases hp : 0 < bs.length
  · refine .inr ⟨g, 0, cap, rfl, hp, hcap, ?_, fun x hx => h.2 x (by simp [hx])⟩
    intro k hk
    rw [Nat.zero_add, h.cell k (by omega)]
    simp [List.getD_eq_getElem?_getD, List.getElem?_append_left hk]
  · have h0 : bs = [] := List.eq_nil_of_length_eq_zero (by omega)
    subst h0
    exact .inl ⟨_, _, rfl, rfl⟩

set_option maxRecDepth 100000 in
/-- Kept: yes. -/
theorem kept_any {w : World} {v : Value} {B g : Nat} {bs : List Nat} (hx : Lent w B g bs) (h : V w v bs) (hl : bs.length ≤ 140737488351232) :
    Calls Tryz.prog 14 #[.slice (some ⟨g, 0, none⟩) bs.length (bs.length + 3), v] w fun e w' => e = .returned (.bool true) ∧ ∃ m, w' = w.drewN m := by
  have hby := bytes_any (hx.v (cap := bs.length + 3) (by omega)) h (by omega)
  rw [show decide (bs = bs) = true by simp] at hby
  obtain ⟨ao, cap, rfl, _, _⟩ := h.form
  have hc0 := hx.cell bs.length (by omega)
  have hc1 := hx.cell (bs.length + 1) (by omega)
  have hc2 := hx.cell (bs.length + 2) (by omega)
  simp [List.getD_eq_getElem?_getD] at hc0 hc1 hc2
  clear hx h
  obtain ⟨n, hn⟩ : ∃ n, bs.length = n := ⟨_, rfl⟩
  rw [hn] at hby hl hc0 hc1 hc2 ⊢
  clear hn
  go_enter Tryz.func14, Tryz.ntmps14
  go_wp2_with (go_at_call 27; refine hby.mono ?_; rintro e w' ⟨rfl, m, rfl⟩)
  refine wp_loop_rounds 4 ?_
  rw [rounds_succ]
  go_wp2
  rw [rounds_succ]
  go_wp2
  rw [rounds_succ]
  go_wp2
  rw [rounds_succ]
  go_wp2
  go_ret
  exact ⟨rfl, _, rfl⟩
end Go.Proofs.YtoikdpjjcnmgeaaGreatDoor.Le
end

section
/-
  DERIVED. A data set cut where an element of the top level ends: two data sets. Plain functions.
-/
namespace Go.Proofs.YtoikdpjjcnmgeaaGreatDoor
open Go Go.Proofs Go.RowKit
open Wk (Nd goN)

theorem goN_le (L : List Nd) (k : Nat) : goN L k ≤ L.length := by
  have h := goN_mono L k (max k L.length) (Nat.le_max_left ..)
  rw [goN_full L _ (Nat.le_max_right ..)] at h
  exact h
theorem goN_cons (a : Nd) (r : List Nd) (k : Nat) : goN (a :: r) (k + 1) = (goN r a.n.toNat + goN (r.drop (goN r a.n.toNat)) k) + 1 := by
  rw [← goN_add, Nat.add_comm a.n.toNat]
  exact Nat.add_comm 1 _
/-- What stands in a node and behind it, in a list that is cut further behind. -/
theorem cut_in (r : List Nd) (m h : Nat) : (r.take (goN r m + h)).take (goN (r.take (goN r m + h)) m) = r.take (goN r m) ∧ (r.take (goN r m + h)).drop (goN (r.take (goN r m + h)) m) = (r.drop (goN r m)).take h := by
  rw [goN_take r m _ (by omega)]
  refine ⟨by rw [List.take_take, Nat.min_eq_left (by omega)], ?_⟩
  rw [List.drop_take, Nat.add_sub_cancel_left]
theorem Enc.wr_cut (X : Enc) : ∀ (f : Nat) (L : List Nd) (k : Nat), L.length ≤ f → X.wrP f L = X.wrP f (L.take (goN L k)) ++ X.wrP f (L.drop (goN L k))
  | 0, L, k, _ => rfl
  | f + 1, [], k, _ => by simp [Enc.wrP]
  | f + 1, a :: r, 0, _ => by
    rw [Wk.goN_zero, List.take_zero, List.drop_zero]
    rfl
  | f + 1, a :: r, k + 1, hf => by
    have hf : r.length ≤ f := by simpa using hf
    obtain ⟨c1, c2⟩ := cut_in r a.n.toNat (goN (r.drop (goN r a.n.toNat)) k)
    have hd := List.length_drop (i := goN r a.n.toNat) (l := r)
    have hd2 := List.length_drop (i := goN r a.n.toNat + goN (r.drop (goN r a.n.toNat)) k) (l := r)
    have e1 : (X.wrP (f + 1) (r.drop (goN r a.n.toNat + goN (r.drop (goN r a.n.toNat)) k))) = X.wrP f (r.drop (goN r a.n.toNat + goN (r.drop (goN r a.n.toNat)) k)) := X.wrP_fuel _ _ _ (by omega) (by omega)
    have e2 : X.szP ((r.take (goN r a.n.toNat + goN (r.drop (goN r a.n.toNat)) k)).take (goN (r.take (goN r a.n.toNat + goN (r.drop (goN r a.n.toNat)) k)) a.n.toNat)) = X.szP (r.take (goN r a.n.toNat)) := by rw [c1]
    rw [goN_cons, List.take_succ_cons, List.drop_succ_cons, e1, Enc.wrP, Enc.wrP, c1, c2, X.wr_cut f (r.drop (goN r a.n.toNat)) k (by omega), List.drop_drop]
    simp only [List.append_assoc]
theorem Enc.wP_cut (X : Enc) (L : List Nd) (k : Nat) : X.wP L = X.wP (L.take (goN L k)) ++ X.wP (L.drop (goN L k)) := by
  have h1 := List.length_take (i := goN L k) (l := L)
  have h2 := List.length_drop (i := goN L k) (l := L)
  unfold Enc.wP
  rw [X.wr_cut L.length L k (Nat.le_refl _), X.wrP_fuel L.length (L.take (goN L k)).length (L.take (goN L k)) (by omega) (Nat.le_refl _), X.wrP_fuel L.length (L.drop (goN L k)).length (L.drop (goN L k)) (by omega) (Nat.le_refl _)]

theorem wt_low {E I : Nd → Bool} : ∀ {f : Nat} {b : Bool} {d : Nat} {t t' : Int} {c : Nat} {M : List Nd}, wt E I f b d t' c M → t ≤ t' → wt E I f b d t c M
  | 0, _, _, _, _, _, _, h, _ => h
  | _ + 1, _, _, _, _, _, [], h, _ => h
  | f + 1, b, d, t, t', c, a :: r, h, ht => by
    obtain ⟨h0, h1, h2, h3⟩ := h
    refine ⟨h0, ?_, h2, h3⟩
    cases b with
    | true => exact h1
    | false => exact ⟨h1.1, by have := h1.2; omega⟩
theorem wt_cut {E I : Nd → Bool} : ∀ (f : Nat) (d : Nat) (t : Int) (c : Nat) (M : List Nd) (k : Nat), wt E I f false d t c M → wt E I f false d t (min c k) (M.take (goN M k)) ∧ ∃ f' t', t ≤ t' ∧ wt E I f' false d t' (c - k) (M.drop (goN M k))
  | 0, d, t, c, M, k, h => by
    obtain ⟨rfl, rfl⟩ := h
    rw [List.take_nil, List.drop_nil]
    exact ⟨⟨rfl, by omega⟩, 0, t, Int.le_refl _, rfl, by omega⟩
  | f + 1, d, t, c, [], k, h => by
    obtain rfl : c = 0 := h
    rw [List.take_nil, List.drop_nil]
    exact ⟨show min 0 k = 0 by omega, 0, t, Int.le_refl _, rfl, by omega⟩
  | f + 1, d, t, c, a :: r, 0, h => by
    rw [Wk.goN_zero, List.take_zero, List.drop_zero]
    exact ⟨show min c 0 = 0 by omega, f + 1, t, Int.le_refl _, h⟩
  | f + 1, d, t, c, a :: r, k + 1, h => by
    obtain ⟨h0, h1, h2, h3⟩ := h
    obtain ⟨c1, c2⟩ := cut_in r a.n.toNat (goN (r.drop (goN r a.n.toNat)) k)
    obtain ⟨i1, f', t', i2, i3⟩ := wt_cut f d a.t (c - 1) (r.drop (goN r a.n.toNat)) k h3
    rw [goN_cons, List.take_succ_cons, List.drop_succ_cons]
    refine ⟨⟨by omega, h1, ?_, ?_⟩, f', t', ?_, ?_⟩
    · rw [c1]; exact h2
    · rw [c2, show min c (k + 1) - 1 = min (c - 1) k by omega]; exact i1
    · have h1 : E a = true ∧ t < a.t := h1
      omega
    · rw [List.drop_drop] at i3
      rw [show c - (k + 1) = c - 1 - k by omega]
      exact i3

theorem right_of {E I : Nd → Bool} {a : Nd} {c t : Int} {rest : List Lv} {b : Bool} {d : Nat} (hb : rest.length = if b = true then 2 * d + 1 else 2 * d) (h : if b = true then I a = true ∧ d + 1 ≤ 4 else E a = true ∧ t < a.t) : rightL E I a ((c, t) :: rest) = true := by
  unfold rightL
  simp only [List.length_cons, List.headD_cons]
  cases b with
  | true =>
    have hb : rest.length = 2 * d + 1 := hb
    rw [if_pos (by omega)]
    simp only [Bool.and_eq_true, decide_eq_true_eq]
    exact ⟨h.1, by have := h.2; omega⟩
  | false =>
    have hb : rest.length = 2 * d := hb
    rw [if_neg (by omega), Bool.and_eq_true]
    have h : E a = true ∧ t < a.t := h
    exact ⟨h.1, decide_eq_true h.2⟩
/-- Such nodes are run through to the level's end. -/
theorem wt_run {E I : Nd → Bool} (hE : ∀ a, E a = true → 0 ≤ a.n ∧ (a.v = 18 ∨ a.n = 0)) (hI : ∀ a, I a = true → 0 ≤ a.n) : ∀ (f : Nat) (b : Bool) (d : Nat) (t : Int) (c : Nat) (M : List Nd), wt E I f b d t c M → ∀ (i : Nat) (rest : List Lv) (X : List Nd), rest ≠ [] → rest.length = (if b = true then 2 * d + 1 else 2 * d) → i + M.length ≤ 4096 →
    runL E I i (popL (((c : Int), t) :: rest)) (M ++ X) = runL E I (i + M.length) (popL rest) X
  | 0, b, d, t, c, M, h, i, rest, X, hr, _, _ => by
    obtain ⟨rfl, rfl⟩ := h
    rw [show ((0 : Nat) : Int) = 0 from rfl, popL_zero _ hr]
    rfl
  | f + 1, b, d, t, c, [], h, i, rest, X, hr, _, _ => by
    obtain rfl : c = 0 := h
    rw [show ((0 : Nat) : Int) = 0 from rfl, popL_zero _ hr]
    rfl
  | f + 1, b, d, t, c, a :: r, h, i, rest, X, hr, hb, hi => by
    obtain ⟨h0, h1, h2, h3⟩ := h
    have hi : i + (r.length + 1) ≤ 4096 := hi
    have hlen : (r.take (goN r a.n.toNat)).length + (r.drop (goN r a.n.toNat)).length = r.length := by rw [← List.length_append, List.take_append_drop]
    rw [popL_some _ (show ((c : Int), t).1 ≠ 0 by show (c : Int) ≠ 0; omega), List.cons_append, runL, if_neg (by
      rintro (e | e)
      · omega
      · rw [right_of hb h1] at e; cases e)]
    have hn := right_n hE hI (right_of (c := (c : Int)) hb h1)
    have hpu : stepL a (((c : Int), t) :: rest) = popL (if (rest.length + 1) % 2 = 0 ∨ a.v = 18 then (a.n, 0) :: ((c : Int) - 1, a.t) :: rest else ((c : Int) - 1, a.t) :: rest) := rfl
    have hc1 : (c : Int) - 1 = ((c - 1 : Nat) : Int) := by omega
    have hXs : r ++ X = r.take (goN r a.n.toNat) ++ (r.drop (goN r a.n.toNat) ++ X) := by rw [← List.append_assoc, List.take_append_drop]
    rw [hpu, hc1, hXs]
    have hstep : runL E I (i + 1) (popL (if (rest.length + 1) % 2 = 0 ∨ a.v = 18 then (a.n, 0) :: (((c - 1 : Nat) : Int), a.t) :: rest else (((c - 1 : Nat) : Int), a.t) :: rest)) (r.take (goN r a.n.toNat) ++ (r.drop (goN r a.n.toNat) ++ X)) = runL E I (i + 1 + (r.take (goN r a.n.toNat)).length) (popL ((((c - 1 : Nat) : Int), a.t) :: rest)) (r.drop (goN r a.n.toNat) ++ X) := by
      by_cases hp : (rest.length + 1) % 2 = 0 ∨ a.v = 18
      · rw [if_pos hp]
        have := wt_run hE hI f (!b) (if b = true then d + 1 else d) 0 a.n.toNat (r.take (goN r a.n.toNat)) h2 (i + 1) ((((c - 1 : Nat) : Int), a.t) :: rest) (r.drop (goN r a.n.toNat) ++ X) (by simp) (by
          rw [List.length_cons, hb]
          cases b
          · rfl
          · show 2 * d + 1 + 1 = 2 * (d + 1); omega) (by omega)
        rw [show ((a.n.toNat : Nat) : Int) = a.n by have := hn.1; omega] at this
        exact this
      · rw [if_neg hp]
        have h0n : a.n = 0 := hn.2.resolve_left hp
        have hg : goN r a.n.toNat = 0 := by rw [h0n]; exact Wk.goN_zero r
        rw [hg]
        rfl
    rw [hstep, wt_run hE hI f b d a.t (c - 1) (r.drop (goN r a.n.toNat)) h3 _ rest X hr hb (by omega)]
    congr 1
    show _ = i + (r.length + 1)
    omega
/-- The same at the top level. -/
theorem wt_run0 {E I : Nd → Bool} (hE : ∀ a, E a = true → 0 ≤ a.n ∧ (a.v = 18 ∨ a.n = 0)) (hI : ∀ a, I a = true → 0 ≤ a.n) : ∀ (f : Nat) (t : Int) (c : Nat) (M : List Nd), wt E I f false 0 t c M → ∀ (i : Nat) (c0 : Int), i + M.length ≤ 4096 → (runL E I i [(c0, t)] M).2 = true
  | 0, t, c, M, h, i, c0, _ => by
    obtain ⟨rfl, rfl⟩ := h
    rfl
  | f + 1, t, c, [], h, i, c0, _ => rfl
  | f + 1, t, c, a :: r, h, i, c0, hi => by
    obtain ⟨h0, h1, h2, h3⟩ := h
    have hi : i + (r.length + 1) ≤ 4096 := hi
    have hlen : (r.take (goN r a.n.toNat)).length + (r.drop (goN r a.n.toNat)).length = r.length := by rw [← List.length_append, List.take_append_drop]
    have hb : ([] : List Lv).length = if false = true then 2 * 0 + 1 else 2 * 0 := rfl
    rw [runL, if_neg (by
      rintro (e | e)
      · omega
      · rw [right_of hb h1] at e; cases e)]
    have hn := right_n hE hI (right_of (c := c0) hb h1)
    have hpu : stepL a [(c0, t)] = popL (if (0 + 1) % 2 = 0 ∨ a.v = 18 then [(a.n, 0), (c0 - 1, a.t)] else [(c0 - 1, a.t)]) := rfl
    have hXs : r = r.take (goN r a.n.toNat) ++ r.drop (goN r a.n.toNat) := (List.take_append_drop _ _).symm
    have hstep : runL E I (i + 1) (popL (if (0 + 1) % 2 = 0 ∨ a.v = 18 then [(a.n, 0), (c0 - 1, a.t)] else [(c0 - 1, a.t)])) (r.take (goN r a.n.toNat) ++ r.drop (goN r a.n.toNat)) = runL E I (i + 1 + (r.take (goN r a.n.toNat)).length) [(c0 - 1, a.t)] (r.drop (goN r a.n.toNat)) := by
      by_cases hp : (0 + 1) % 2 = 0 ∨ a.v = 18
      · rw [if_pos hp]
        have := wt_run hE hI f true 0 0 a.n.toNat (r.take (goN r a.n.toNat)) h2 (i + 1) [(c0 - 1, a.t)] (r.drop (goN r a.n.toNat)) (by simp) rfl (by omega)
        rw [show ((a.n.toNat : Nat) : Int) = a.n by have := hn.1; omega, popL_one] at this
        exact this
      · rw [if_neg hp, popL_one]
        have h0n : a.n = 0 := hn.2.resolve_left hp
        have hg : goN r a.n.toNat = 0 := by rw [h0n]; exact Wk.goN_zero r
        rw [hg]
        rfl
    rw [hpu]
    conv => lhs; rw [hXs]
    rw [hstep]
    exact wt_run0 hE hI f a.t (c - 1) _ h3 _ _ (by omega)
/-- A data set cut at the top level. -/
theorem res_cut {L : List Nd} (h : (res L).2 = true) (k : Nat) : (res (L.take (goN L k))).2 = true ∧ (res (L.drop (goN L k))).2 = true := by
  obtain ⟨c, hw⟩ := run_wt0 elem_n item_n L.length L 0 0 0 (Nat.le_refl _) h
  obtain ⟨h1, f', t', h2, h3⟩ := wt_cut L.length 0 0 c L k hw
  have hl := (res_ok h).1
  exact ⟨wt_run0 elem_n item_n _ _ _ _ h1 0 0 (by rw [List.length_take]; omega), wt_run0 elem_n item_n _ _ _ _ (wt_low h3 h2) 0 0 (by rw [List.length_drop]; omega)⟩
theorem err_cut {s : Int} {L : List Nd} (h : errOf s L = none) (k : Nat) : errOf s (L.take (goN L k)) = none ∧ errOf s (L.drop (goN L k)) = none ∧ outB s L = outB s (L.take (goN L k)) ++ outB s (L.drop (goN L k)) := by
  obtain ⟨h1, h2, h3, h4⟩ := err_ok h
  obtain ⟨r1, r2⟩ := res_cut h2 k
  obtain ⟨s1, s2⟩ := (encS s).szP_le L (goN L k)
  have e1 : errOf s (L.take (goN L k)) = none := err_none (by omega) r1 (by omega)
  have e2 : errOf s (L.drop (goN L k)) = none := err_none (by omega) r2 (by omega)
  refine ⟨e1, e2, ?_⟩
  rw [h4, (err_ok e1).2.2.2, (err_ok e2).2.2.2]
  exact (encS s).wP_cut L k
end Go.Proofs.YtoikdpjjcnmgeaaGreatDoor
end

section
/-
  DERIVED. DatasetJoined.
-/
namespace Go.Proofs.YtoikdpjjcnmgeaaGreatDoor
open Go Go.Proofs Go.RowKit
open Wk (Nd NV nds goN nxt)
open Go.Sort

theorem ba_v {base : Nat} {w : World} {a : Option Addr} {n cap : Nat} {ys : List UInt8} (h : BA base w a n cap ys) : Le.V w (.slice a n cap) (ys.map UInt8.toNat) := by
  have hl := h.l
  by_cases hn : n = 0
  · subst hn
    obtain rfl : ys = [] := List.length_eq_zero_iff.1 hl.symm
    exact .inl ⟨a, cap, rfl, rfl⟩
  · obtain ⟨b, off, rfl, -, -⟩ := h.m 0 (by omega)
    refine .inr ⟨b, off, cap, by rw [List.length_map, ← hl], by rw [List.length_map]; omega, by rw [List.length_map]; have := h.c; omega, fun k hk => ?_, fun x hx => ?_⟩
    · rw [List.length_map] at hk
      obtain ⟨b', off', e, -, hc⟩ := h.m k (by omega)
      cases e
      rw [hc]
      unfold gB
      rw [List.getD_eq_getElem?_getD, List.getD_eq_getElem?_getD, List.getElem?_map, List.getElem?_eq_getElem hk]
      rfl
    · obtain ⟨y, -, rfl⟩ := List.mem_map.1 hx
      exact y.toNat_lt
/-- The same bytes. -/
theorem bytes_eq (w : World) {b1 b2 : Nat} {a1 a2 : Option Addr} {n1 n2 c1 c2 : Nat} {ys : List UInt8} (h1 : BA b1 w a1 n1 c1 ys) (h2 : BA b2 w a2 n2 c2 ys) (hl : ys.length ≤ 1048576) : Calls Tryz.prog 27 #[.slice a1 n1 c1, .slice a2 n2 c2] w fun e w' => e = .returned (.bool true) ∧ ∃ m, w' = w.drewN m := by
  refine (Le.bytes_any (ba_v h1) (ba_v h2) (by rw [List.length_map]; omega)).mono ?_
  rintro e w' ⟨rfl, hm⟩
  exact ⟨by simp, hm⟩
theorem BA.take {base : Nat} {w : World} {a : Option Addr} {n cap : Nat} {ys zs : List UInt8} (h : BA base w a n cap (ys ++ zs)) : BA base w a ys.length cap ys := by
  have hl := h.l
  rw [List.length_append] at hl
  refine ⟨rfl, by have := h.c; omega, by have := h.s; omega, fun k hk => ?_⟩
  obtain ⟨b, off, e, hb, hc⟩ := h.m k (by omega)
  refine ⟨b, off, e, hb, ?_⟩
  rw [hc]
  unfold gB
  rw [List.getD_eq_getElem?_getD, List.getElem?_append_left hk, ← List.getD_eq_getElem?_getD]
theorem BA.drop {base : Nat} {w : World} {b off n cap : Nat} {ys zs : List UInt8} (h : BA base w (some ⟨b, off, none⟩) n cap (ys ++ zs)) (z m c : Nat) (hm : m = zs.length) (hc : m ≤ c) (hz : 0 < m → z = off + ys.length) : BA base w (some ⟨b, z, none⟩) m c zs := by
  have hl := h.l
  rw [List.length_append] at hl
  refine ⟨hm, hc, by have := h.s; omega, fun k hk => ?_⟩
  obtain ⟨b', off', e, hb, hcell⟩ := h.m (ys.length + k) (by omega)
  cases e
  refine ⟨b, z, rfl, hb, ?_⟩
  rw [hz (by omega), Nat.add_assoc, hcell]
  unfold gB
  rw [List.getD_eq_getElem?_getD, List.getElem?_append_right (by omega), Nat.add_sub_cancel_left, ← List.getD_eq_getElem?_getD]
theorem BA.on {base : Nat} {w w' : World} {a : Option Addr} {n cap : Nat} {ys : List UInt8} (h : BA base w a n cap ys) (hb : Below base w w') : BA base w' a n cap ys :=
  ⟨h.l, h.c, h.s, fun k hk => by obtain ⟨b, off, e, h1, h2⟩ := h.m k hk; exact ⟨b, off, e, h1, (hb.cell (p := ⟨b, off + k, none⟩) h1).trans h2⟩⟩
/-- Size where nothing is refused. -/
theorem siz_ok (w : World) (a : Option Addr) (n cap : Nat) (L : List Nd) (hV : NV w a n cap L) (hT : TagsOk L) (hE : EG w) (s : Int) (h : errOf s L = none) : Calls Tryz.prog 29 #[.slice a n cap, .int .i64 s] w fun e w' => e = .returned (.tuple #[.int .i64 ((outB s L).length : Int), .nilIface]) ∧ Below w.heap.size w w' := by
  refine (size_any w a n cap L hV hT hE s).mono ?_
  rintro e w' ⟨ve, rfl, hp, hb⟩
  rcases hp with ⟨-, rfl⟩ | ⟨ls, k, e, -⟩
  · refine ⟨?_, hb⟩
    have : siz s L = (outB s L).length := by
      rw [out_len h]
      unfold siz
      rw [h]
      rfl
    rw [this]
  · rw [h] at e; cases e
theorem TagsOk.take {L : List Nd} (h : TagsOk L) (k : Nat) : TagsOk (L.take k) := fun x hx => h x (List.mem_of_mem_take hx)
theorem TagsOk.drop {L : List Nd} (h : TagsOk L) (k : Nat) : TagsOk (L.drop k) := fun x hx => h x (List.mem_of_mem_drop hx)
theorem goN_next (L : List Nd) (k : Nat) : goN L (k + 1) = nxt L (goN L k) := by unfold nxt; rw [goN_add]

set_option maxRecDepth 100000 in
set_option maxHeartbeats 8000000 in
theorem joined_some (w : World) (b off n cap : Nat) (cut s : Int) (L : List Nd) (hV : NV w (some ⟨b, off, none⟩) n cap L) (hn0 : 0 < n) (hcut : cut ≤ 9223372036854775807) (hT : TagsOk L) (hE : EG w) : Calls Tryz.prog 7 #[.slice (some ⟨b, off, none⟩) n cap, .int .i64 cut, .int .i64 s] w fun e w' => e = .returned (.bool true) ∧ Below w.heap.size w w' := by
  have HV : Hid (NV w (some ⟨b, off, none⟩) n cap L) := hV
  have HT : Hid (TagsOk L) := hT
  have HE : Hid (EG w) := hE
  have HNL : Hid (n = L.length) := hV.len
  have hroom := hV.room
  have hsmall := hV.small
  obtain ⟨z, hz⟩ : ∃ z, (errOf s L).isSome = z := ⟨_, rfl⟩
  have HZ : Hid ((errOf s L).isSome = z) := hz
  clear hV hT hE hz
  go_enter Tryz.func7, Tryz.ntmps7
  go_wp2_with (go_at_call 18; refine StopQ.out ?_)
  refine ⟨Calls.mono (alive_any w HE.out) ?_⟩
  rintro e W1 ⟨rfl, hb1⟩
  have HB1 : Hid (Below w.heap.size w W1) := hb1
  clear hb1
  go_wp2_with (go_at_call 25; refine StopQ.out ?_)
  refine ⟨Calls.mono (rsize_any some_zero W1 _ n cap L (HV.out.on HB1.out) HT.out s) ?_⟩
  rintro e W2 ⟨vf, rfl, hp2, hb2⟩
  obtain ⟨fa, fm, fc, fz, hvf⟩ := rerr_form hp2
  subst hvf
  have HP2 : Hid (RErr2 W2 (.agg #[.slice fa fm fc, .int .i64 fz]) (errOf s L)) := hp2
  have HB2 : Hid (Below w.heap.size w W2) := HB1.out.trans (hb2.mono HB1.out.size)
  obtain ⟨W3, hW3⟩ : ∃ W3, W2.alloc (.cells #[.slice fa fm fc, .int .i64 fz] 32) = W3 := ⟨_, rfl⟩
  have hb3 : Below W2.heap.size W2 W3 := by rw [← hW3]; exact (Below.refl _ _).alloc (Nat.le_refl _) _
  have d0 : W3.cell? ⟨W2.heap.size, 0, none⟩ = some (.slice fa fm fc) := by rw [← hW3]; simp
  have d1 : W3.cell? ⟨W2.heap.size, 1, none⟩ = some (.int .i64 fz) := by rw [← hW3]; simp
  have HB3 : Hid (Below w.heap.size w W3) := HB2.out.trans (hb3.mono HB2.out.size)
  clear hp2 hb2 hb3
  go_wp2_with (go_at_call 26; refine StopQ.out ?_)
  refine ⟨Calls.mono (any_err W3 HP2.out HZ.out) ?_⟩
  rintro e W4 ⟨rfl, hb4⟩
  have HB4 : Hid (Below w.heap.size w W4) := HB3.out.trans (hb4.mono HB3.out.size)
  clear hb4 hW3 d0 d1
  cases z with
  | true =>
    go_wp2
    go_ret
    exact ⟨rfl, HB4.out⟩
  | false =>
  have HO : Hid (errOf s L = none) := by show _ = _; simpa using HZ.out
  have h40 : n ≤ 4096 := by rw [HNL.out]; exact (res_ok (err_ok HO.out).2.1).1
  by_cases hc0 : cut < 0
  · go_wp2
    go_ret
    exact ⟨rfl, HB4.out⟩
  have hc0' : ¬ cut < 0 := hc0
  go_wp2
  go_loopw [9, 10] (fun x9 x10 wr => ∃ k : Nat, x10 = .int .i64 (k : Int) ∧ x9 = .int .i64 ((goN L k : Nat) : Int) ∧ k ≤ goN L k ∧ wr = W4) (fun x9 _ _ => 10000 - (intOf x9).toNat)
  case atStart => exact ⟨0, rfl, by rw [Wk.goN_zero]; rfl, by omega, rfl⟩
  case round =>
    obtain ⟨k, rfl, rfl, hk, rfl⟩ := hrel
    obtain ⟨j, hj⟩ : ∃ j, goN L k = j := ⟨_, rfl⟩
    have HJ : Hid (goN L k = j) := hj
    have hjn : j ≤ n := by rw [← hj, HNL.out]; exact goN_le L k
    rw [hj] at hk ⊢
    clear hj
    by_cases hkc : (k : Int) < cut
    · by_cases hjl : j < n
      · have hjI : (j : Int) < (n : Int) := by omega
        have HX : Hid (goN L (k + 1) = nxt L j ∧ j < nxt L j ∧ nxt L j ≤ n) := by
          have e := goN_next L k
          rw [HJ.out] at e
          refine ⟨e, Wk.nxt_gt (by have := HNL.out; omega), ?_⟩
          rw [← e, HNL.out]
          exact goN_le L _
        obtain ⟨x, hx⟩ : ∃ x, nxt L j = x := ⟨_, rfl⟩
        have cN := Wk.nextR_in wr _ n cap j L (HV.out.on HB4.out) hjl (by omega)
        rw [hx] at HX cN
        have hxx := HX.out.2
        clear hx
        go_wp2_with (go_at_call 28; refine cN.mono ?_; rintro e w' ⟨rfl, rfl⟩)
        go_roundw
        case rel => exact ⟨k + 1, by go_num, by rw [HX.out.1], by rw [HX.out.1]; omega, trivial⟩
        case measure => simp [intOf]; omega
      · have hjI : ¬ (j : Int) < (n : Int) := by omega
        have HCUT : Hid (errOf s (L.take j) = none ∧ errOf s (L.drop j) = none ∧ outB s L = outB s (L.take j) ++ outB s (L.drop j)) := by rw [← HJ.out]; exact err_cut HO.out k
        have HNT : Hid (NV wr (some ⟨b, off, none⟩) j cap (L.take j)) := by
          have := NV.part (HV.out.on HB4.out) (i := 0) (e := j) (by omega) hjn off (fun _ => by omega)
          rw [show sub L 0 j = L.take j from rfl, Nat.sub_zero, Nat.sub_zero] at this
          exact this
        have HND : Hid (∀ z c, (j < n → z = off + j * 4) → n - j ≤ c → NV wr (some ⟨b, z, none⟩) (n - j) c (L.drop j)) := fun z c hz hc => by
          have := NV.part (HV.out.on HB4.out) (i := j) (e := n) hjn (Nat.le_refl _) z hz
          rw [show sub L j n = L.drop j by unfold sub; rw [List.take_of_length_le (by have := HNL.out; omega)]] at this
          exact ⟨this.len, hc, this.small, this.lies, this.num⟩
        have HVW : Hid (NV wr (some ⟨b, off, none⟩) n cap L) := HV.out.on HB4.out
        have HVC : Hid (∀ c, n ≤ c → NV wr (some ⟨b, off, none⟩) n c L) := fun c hc => ⟨HVW.out.len, hc, HVW.out.small, HVW.out.lies, HVW.out.num⟩
        have HE4 : Hid (EG wr) := HE.out.keep HB4.out
        obtain ⟨lw, hlw⟩ : ∃ m, (outB s L).length = m := ⟨_, rfl⟩
        obtain ⟨lt, hlt⟩ : ∃ m, (outB s (L.take j)).length = m := ⟨_, rfl⟩
        obtain ⟨ld, hld⟩ : ∃ m, (outB s (L.drop j)).length = m := ⟨_, rfl⟩
        have HLW : Hid ((outB s L).length = lw ∧ (outB s (L.take j)).length = lt ∧ (outB s (L.drop j)).length = ld) := ⟨hlw, hlt, hld⟩
        have hsum : lw = lt + ld := by rw [← hlw, ← hlt, ← hld, HCUT.out.2.2, List.length_append]
        have hlim : lw ≤ 1048576 := by rw [← hlw]; exact (back_ok HO.out HT.out).2.1
        have HL0 : Hid (0 < lw) := by
          show 0 < lw
          rw [← hlw, out_len HO.out]
          exact sz_pos _ L (fun e => by have := HNL.out; rw [e] at this; simp at this; omega)
        have HSUM : Hid (lw = lt + ld ∧ lw ≤ 1048576) := ⟨hsum, hlim⟩
        have hsumI : (lt : Int) + (ld : Int) = (lw : Int) := by omega
        have hltw : lt ≤ lw := by omega
        clear hk hlw hlt hld hsum
        go_wp2_with (go_at_call 20; refine StopQ.out ?_)
        refine ⟨Calls.mono (enc_ok wr _ n cap L HVW.out HT.out HE4.out s HO.out) ?_⟩
        rintro e W5 ⟨a5, c5, rfl, hB5, hb5⟩
        rw [HLW.out.1] at hB5 ⊢
        obtain ⟨b5, o5, ha5, -, -⟩ := hB5.out.m 0 HL0.out
        subst ha5
        have hc5 := hB5.out.c
        go_wp2_with (go_at_call 20; refine StopQ.out ?_)
        refine ⟨Calls.mono (enc_ok W5 _ j cap (L.take j) (HNT.out.on hb5.out) (HT.out.take j) (HE4.out.keep hb5.out) s HCUT.out.1) ?_⟩
        rintro e W6 ⟨a6, c6, rfl, hB6, hb6⟩
        rw [HLW.out.2.1] at hB6 ⊢
        go_wp2_with (go_at_call 20; refine StopQ.out ?_)
        all_goals (
          refine ⟨Calls.mono (enc_ok W6 _ (n - j) _ (L.drop j) (((HND.out _ _ (fun hlt => by omega) (by omega)).on hb5.out).on hb6.out) (HT.out.drop j) ((HE4.out.keep hb5.out).keep hb6.out) s HCUT.out.2.1) ?_⟩
          rintro e W7 ⟨a7, c7, rfl, hB7, hb7⟩
          rw [HLW.out.2.2] at hB7 ⊢
          go_wp2_with (go_at_call 29; refine StopQ.out ?_)
          refine ⟨Calls.mono (siz_ok W7 _ n _ L ((((HVC.out _ (by omega)).on hb5.out).on hb6.out).on hb7.out) HT.out (((HE4.out.keep hb5.out).keep hb6.out).keep hb7.out) s HO.out) ?_⟩
          rintro e W8 ⟨rfl, hb8⟩
          rw [HLW.out.1]
          have hX8 : Below W5.heap.size W5 W8 := hb6.out.trans ((hb7.out.trans (hb8.mono hb7.out.size)).mono hb6.out.size)
          have hY8 : Below W6.heap.size W6 W8 := hb7.out.trans (hb8.mono hb7.out.size)
          have HBW : Hid (BA W5.heap.size W8 (some ⟨b5, o5, none⟩) lw c5 (outB s (L.take j) ++ outB s (L.drop j))) := by rw [← HCUT.out.2.2]; exact hB5.out.on hX8
          have HBT : Hid (BA W5.heap.size W8 (some ⟨b5, o5, none⟩) lt c5 (outB s (L.take j))) := by have := HBW.out.take; rw [HLW.out.2.1] at this; exact this
          have HB6' : Hid (BA W6.heap.size W8 a6 lt c6 (outB s (L.take j))) := hB6.out.on hY8
          have HB7' : Hid (BA W7.heap.size W8 a7 ld c7 (outB s (L.drop j))) := hB7.out.on hb8
          have HLIM : Hid ((outB s (L.take j)).length ≤ 1048576 ∧ (outB s (L.drop j)).length ≤ 1048576) := by rw [HLW.out.2.1, HLW.out.2.2]; exact ⟨by have := HSUM.out; omega, by have := HSUM.out; omega⟩
          have HBB8 : Hid (Below w.heap.size w W8) := HB4.out.trans ((hb5.out.trans (hX8.mono hb5.out.size)).mono HB4.out.size)
          clear hb5 hb6 hb7 hb8 hX8 hY8 hB5 hB6 hB7
          go_wp2_with (go_at_call 27; refine StopQ.out ?_)
          refine ⟨Calls.mono (bytes_eq W8 HBT.out HB6'.out HLIM.out.1) ?_⟩
          rintro e W9 ⟨rfl, m9, hW9⟩
          have hb9 : Below W8.heap.size W8 W9 := by rw [hW9]; exact Wk.below_drw (Below.refl _ _) m9
          have HBB9 : Hid (Below w.heap.size w W9) := HBB8.out.trans (hb9.mono HBB8.out.size)
          have HBW9 : Hid (BA W5.heap.size W9 (some ⟨b5, o5, none⟩) lw c5 (outB s (L.take j) ++ outB s (L.drop j))) := by rw [hW9]; exact HBW.out.on (Wk.below_drw (Below.refl _ _) m9)
          have HB9' : Hid (BA W7.heap.size W9 a7 ld c7 (outB s (L.drop j))) := by rw [hW9]; exact HB7'.out.on (Wk.below_drw (Below.refl _ _) m9)
          clear hb9 hW9
          go_wp2_with (go_at_call 27; refine StopQ.out ?_)
          all_goals (
            refine ⟨Calls.mono (bytes_eq W9 (BA.drop HBW9.out _ (lw - lt) _ (by rw [HLW.out.2.2]; have := HSUM.out; omega) (by omega) (fun hp => by have := HLW.out.2.1; omega)) HB9'.out HLIM.out.2) ?_⟩
            rintro e W10 ⟨rfl, m10, hW10⟩
            have HBB10 : Hid (Below w.heap.size w W10) := by rw [hW10]; exact Wk.below_drw HBB9.out m10
            clear hW10
            go_wp2
            go_ret
            exact ⟨rfl, HBB10.out⟩))
    · skip
      have HCUT : Hid (errOf s (L.take j) = none ∧ errOf s (L.drop j) = none ∧ outB s L = outB s (L.take j) ++ outB s (L.drop j)) := by rw [← HJ.out]; exact err_cut HO.out k
      have HNT : Hid (NV wr (some ⟨b, off, none⟩) j cap (L.take j)) := by
        have := NV.part (HV.out.on HB4.out) (i := 0) (e := j) (by omega) hjn off (fun _ => by omega)
        rw [show sub L 0 j = L.take j from rfl, Nat.sub_zero, Nat.sub_zero] at this
        exact this
      have HND : Hid (∀ z c, (j < n → z = off + j * 4) → n - j ≤ c → NV wr (some ⟨b, z, none⟩) (n - j) c (L.drop j)) := fun z c hz hc => by
        have := NV.part (HV.out.on HB4.out) (i := j) (e := n) hjn (Nat.le_refl _) z hz
        rw [show sub L j n = L.drop j by unfold sub; rw [List.take_of_length_le (by have := HNL.out; omega)]] at this
        exact ⟨this.len, hc, this.small, this.lies, this.num⟩
      have HVW : Hid (NV wr (some ⟨b, off, none⟩) n cap L) := HV.out.on HB4.out
      have HVC : Hid (∀ c, n ≤ c → NV wr (some ⟨b, off, none⟩) n c L) := fun c hc => ⟨HVW.out.len, hc, HVW.out.small, HVW.out.lies, HVW.out.num⟩
      have HE4 : Hid (EG wr) := HE.out.keep HB4.out
      obtain ⟨lw, hlw⟩ : ∃ m, (outB s L).length = m := ⟨_, rfl⟩
      obtain ⟨lt, hlt⟩ : ∃ m, (outB s (L.take j)).length = m := ⟨_, rfl⟩
      obtain ⟨ld, hld⟩ : ∃ m, (outB s (L.drop j)).length = m := ⟨_, rfl⟩
      have HLW : Hid ((outB s L).length = lw ∧ (outB s (L.take j)).length = lt ∧ (outB s (L.drop j)).length = ld) := ⟨hlw, hlt, hld⟩
      have hsum : lw = lt + ld := by rw [← hlw, ← hlt, ← hld, HCUT.out.2.2, List.length_append]
      have hlim : lw ≤ 1048576 := by rw [← hlw]; exact (back_ok HO.out HT.out).2.1
      have HL0 : Hid (0 < lw) := by
        show 0 < lw
        rw [← hlw, out_len HO.out]
        exact sz_pos _ L (fun e => by have := HNL.out; rw [e] at this; simp at this; omega)
      have HSUM : Hid (lw = lt + ld ∧ lw ≤ 1048576) := ⟨hsum, hlim⟩
      have hsumI : (lt : Int) + (ld : Int) = (lw : Int) := by omega
      have hltw : lt ≤ lw := by omega
      clear hk hlw hlt hld hsum
      go_wp2_with (go_at_call 20; refine StopQ.out ?_)
      refine ⟨Calls.mono (enc_ok wr _ n cap L HVW.out HT.out HE4.out s HO.out) ?_⟩
      rintro e W5 ⟨a5, c5, rfl, hB5, hb5⟩
      rw [HLW.out.1] at hB5 ⊢
      obtain ⟨b5, o5, ha5, -, -⟩ := hB5.out.m 0 HL0.out
      subst ha5
      have hc5 := hB5.out.c
      go_wp2_with (go_at_call 20; refine StopQ.out ?_)
      refine ⟨Calls.mono (enc_ok W5 _ j cap (L.take j) (HNT.out.on hb5.out) (HT.out.take j) (HE4.out.keep hb5.out) s HCUT.out.1) ?_⟩
      rintro e W6 ⟨a6, c6, rfl, hB6, hb6⟩
      rw [HLW.out.2.1] at hB6 ⊢
      go_wp2_with (go_at_call 20; refine StopQ.out ?_)
      all_goals (
        refine ⟨Calls.mono (enc_ok W6 _ (n - j) _ (L.drop j) (((HND.out _ _ (fun hlt => by omega) (by omega)).on hb5.out).on hb6.out) (HT.out.drop j) ((HE4.out.keep hb5.out).keep hb6.out) s HCUT.out.2.1) ?_⟩
        rintro e W7 ⟨a7, c7, rfl, hB7, hb7⟩
        rw [HLW.out.2.2] at hB7 ⊢
        go_wp2_with (go_at_call 29; refine StopQ.out ?_)
        refine ⟨Calls.mono (siz_ok W7 _ n _ L ((((HVC.out _ (by omega)).on hb5.out).on hb6.out).on hb7.out) HT.out (((HE4.out.keep hb5.out).keep hb6.out).keep hb7.out) s HO.out) ?_⟩
        rintro e W8 ⟨rfl, hb8⟩
        rw [HLW.out.1]
        have hX8 : Below W5.heap.size W5 W8 := hb6.out.trans ((hb7.out.trans (hb8.mono hb7.out.size)).mono hb6.out.size)
        have hY8 : Below W6.heap.size W6 W8 := hb7.out.trans (hb8.mono hb7.out.size)
        have HBW : Hid (BA W5.heap.size W8 (some ⟨b5, o5, none⟩) lw c5 (outB s (L.take j) ++ outB s (L.drop j))) := by rw [← HCUT.out.2.2]; exact hB5.out.on hX8
        have HBT : Hid (BA W5.heap.size W8 (some ⟨b5, o5, none⟩) lt c5 (outB s (L.take j))) := by have := HBW.out.take; rw [HLW.out.2.1] at this; exact this
        have HB6' : Hid (BA W6.heap.size W8 a6 lt c6 (outB s (L.take j))) := hB6.out.on hY8
        have HB7' : Hid (BA W7.heap.size W8 a7 ld c7 (outB s (L.drop j))) := hB7.out.on hb8
        have HLIM : Hid ((outB s (L.take j)).length ≤ 1048576 ∧ (outB s (L.drop j)).length ≤ 1048576) := by rw [HLW.out.2.1, HLW.out.2.2]; exact ⟨by have := HSUM.out; omega, by have := HSUM.out; omega⟩
        have HBB8 : Hid (Below w.heap.size w W8) := HB4.out.trans ((hb5.out.trans (hX8.mono hb5.out.size)).mono HB4.out.size)
        clear hb5 hb6 hb7 hb8 hX8 hY8 hB5 hB6 hB7
        go_wp2_with (go_at_call 27; refine StopQ.out ?_)
        refine ⟨Calls.mono (bytes_eq W8 HBT.out HB6'.out HLIM.out.1) ?_⟩
        rintro e W9 ⟨rfl, m9, hW9⟩
        have hb9 : Below W8.heap.size W8 W9 := by rw [hW9]; exact Wk.below_drw (Below.refl _ _) m9
        have HBB9 : Hid (Below w.heap.size w W9) := HBB8.out.trans (hb9.mono HBB8.out.size)
        have HBW9 : Hid (BA W5.heap.size W9 (some ⟨b5, o5, none⟩) lw c5 (outB s (L.take j) ++ outB s (L.drop j))) := by rw [hW9]; exact HBW.out.on (Wk.below_drw (Below.refl _ _) m9)
        have HB9' : Hid (BA W7.heap.size W9 a7 ld c7 (outB s (L.drop j))) := by rw [hW9]; exact HB7'.out.on (Wk.below_drw (Below.refl _ _) m9)
        clear hb9 hW9
        go_wp2_with (go_at_call 27; refine StopQ.out ?_)
        all_goals (
          refine ⟨Calls.mono (bytes_eq W9 (BA.drop HBW9.out _ (lw - lt) _ (by rw [HLW.out.2.2]; have := HSUM.out; omega) (by omega) (fun hp => by have := HLW.out.2.1; omega)) HB9'.out HLIM.out.2) ?_⟩
          rintro e W10 ⟨rfl, m10, hW10⟩
          have HBB10 : Hid (Below w.heap.size w W10) := by rw [hW10]; exact Wk.below_drw HBB9.out m10
          clear hW10
          go_wp2
          go_ret
          exact ⟨rfl, HBB10.out⟩))
end Go.Proofs.YtoikdpjjcnmgeaaGreatDoor
end

section
/-
  DERIVED. DatasetJoined: no nodes.
-/
namespace Go.Proofs.YtoikdpjjcnmgeaaGreatDoor
open Go Go.Proofs Go.RowKit
open Wk (Nd NV nds goN nxt)
open Go.Sort

theorem nv_nil (w : World) (a : Option Addr) (c : Nat) : NV w a 0 c [] := ⟨rfl, Nat.zero_le _, by omega, fun h => absurd h (by omega), fun x hx => by simp at hx⟩
theorem tags_nil : TagsOk [] := fun x hx => by simp at hx
theorem out_nil {s : Int} (h : errOf s [] = none) : outB s [] = [] := by rw [(err_ok h).2.2.2]; rfl
theorem enc_nil (w : World) (a : Option Addr) (cap : Nat) (hE : EG w) (s : Int) (h : errOf s [] = none) : Calls Tryz.prog 20 #[.slice a 0 cap, .int .i64 s] w fun e w' => e = .returned (.tuple #[.slice none 0 0, .nilIface]) ∧ Below w.heap.size w w' := by
  refine (encode_any w a 0 cap [] (nv_nil w a cap) tags_nil hE s).mono ?_
  rintro e w' ⟨u, ve, rfl, -, hn, hp, hb⟩
  obtain rfl := hn (out_nil h)
  rcases hp with ⟨-, rfl⟩ | ⟨ls, k, e, -⟩
  · exact ⟨rfl, hb⟩
  · rw [h] at e; cases e
theorem siz_nil (w : World) (a : Option Addr) (cap : Nat) (hE : EG w) (s : Int) (h : errOf s [] = none) : Calls Tryz.prog 29 #[.slice a 0 cap, .int .i64 s] w fun e w' => e = .returned (.tuple #[.int .i64 0, .nilIface]) ∧ Below w.heap.size w w' := by
  have := siz_ok w a 0 cap [] (nv_nil w a cap) tags_nil hE s h
  rw [out_nil h] at this
  exact this

set_option maxRecDepth 100000 in
set_option maxHeartbeats 8000000 in
theorem joined_zero (w : World) (a : Option Addr) (cap : Nat) (cut s : Int) (hc : a = none → cap = 0) (hE : EG w) : Calls Tryz.prog 7 #[.slice a 0 cap, .int .i64 cut, .int .i64 s] w fun e w' => e = .returned (.bool true) ∧ Below w.heap.size w w' := by
  have HE : Hid (EG w) := hE
  have HC : Hid (a = none → cap = 0) := hc
  obtain ⟨z, hz⟩ : ∃ z, (errOf s []).isSome = z := ⟨_, rfl⟩
  have HZ : Hid ((errOf s []).isSome = z) := hz
  clear hE hz hc
  go_enter Tryz.func7, Tryz.ntmps7
  go_wp2_with (go_at_call 18; refine StopQ.out ?_)
  refine ⟨Calls.mono (alive_any w HE.out) ?_⟩
  rintro e W1 ⟨rfl, hb1⟩
  have HB1 : Hid (Below w.heap.size w W1) := hb1
  clear hb1
  go_wp2_with (go_at_call 25; refine StopQ.out ?_)
  refine ⟨Calls.mono (rsize_any some_zero W1 a 0 cap [] (nv_nil W1 a cap) tags_nil s) ?_⟩
  rintro e W2 ⟨vf, rfl, hp2, hb2⟩
  obtain ⟨fa, fm, fc, fz, hvf⟩ := rerr_form hp2
  subst hvf
  have HP2 : Hid (RErr2 W2 (.agg #[.slice fa fm fc, .int .i64 fz]) (errOf s [])) := hp2
  have HB2 : Hid (Below w.heap.size w W2) := HB1.out.trans (hb2.mono HB1.out.size)
  obtain ⟨W3, hW3⟩ : ∃ W3, W2.alloc (.cells #[.slice fa fm fc, .int .i64 fz] 32) = W3 := ⟨_, rfl⟩
  have hb3 : Below W2.heap.size W2 W3 := by rw [← hW3]; exact (Below.refl _ _).alloc (Nat.le_refl _) _
  have d0 : W3.cell? ⟨W2.heap.size, 0, none⟩ = some (.slice fa fm fc) := by rw [← hW3]; simp
  have d1 : W3.cell? ⟨W2.heap.size, 1, none⟩ = some (.int .i64 fz) := by rw [← hW3]; simp
  have HB3 : Hid (Below w.heap.size w W3) := HB2.out.trans (hb3.mono HB2.out.size)
  clear hp2 hb2 hb3
  go_wp2_with (go_at_call 26; refine StopQ.out ?_)
  refine ⟨Calls.mono (any_err W3 HP2.out HZ.out) ?_⟩
  rintro e W4 ⟨rfl, hb4⟩
  have HB4 : Hid (Below w.heap.size w W4) := HB3.out.trans (hb4.mono HB3.out.size)
  clear hb4 hW3 d0 d1
  cases z with
  | true =>
    go_wp2
    go_ret
    exact ⟨rfl, HB4.out⟩
  | false =>
  have HO : Hid (errOf s [] = none) := by show _ = _; simpa using HZ.out
  by_cases hc0 : cut < 0
  · go_wp2
    go_ret
    exact ⟨rfl, HB4.out⟩
  have hc0' : ¬ cut < 0 := hc0
  have HE4 : Hid (EG W4) := HE.out.keep HB4.out
  go_wp2
  refine wp_loop_rounds 1 ?_
  rw [rounds_succ]
  rcases a with _ | ⟨b, off, sp⟩
  · obtain rfl := HC.out rfl
    by_cases hkc : 0 < cut
    all_goals (
      go_wp2_with (go_at_call 20; refine StopQ.out ?_)
      refine ⟨Calls.mono (enc_nil W4 _ _ HE4.out s HO.out) ?_⟩
      rintro e W5 ⟨rfl, hb5⟩
      go_wp2_with (go_at_call 20; refine StopQ.out ?_)
      refine ⟨Calls.mono (enc_nil W5 _ _ (HE4.out.keep hb5) s HO.out) ?_⟩
      rintro e W6 ⟨rfl, hb6⟩
      go_wp2_with (go_at_call 20; refine StopQ.out ?_)
      refine ⟨Calls.mono (enc_nil W6 _ _ ((HE4.out.keep hb5).keep hb6) s HO.out) ?_⟩
      rintro e W7 ⟨rfl, hb7⟩
      go_wp2_with (go_at_call 29; refine StopQ.out ?_)
      refine ⟨Calls.mono (siz_nil W7 _ _ (((HE4.out.keep hb5).keep hb6).keep hb7) s HO.out) ?_⟩
      rintro e W8 ⟨rfl, hb8⟩
      have HB8 : Hid (Below w.heap.size w W8) := HB4.out.trans ((hb5.trans ((hb6.trans ((hb7.trans (hb8.mono hb7.size)).mono hb6.size)).mono hb5.size)).mono HB4.out.size)
      clear hb5 hb6 hb7 hb8
      go_wp2_with (go_at_call 27; refine StopQ.out ?_)
      refine ⟨Calls.mono (Le.bytes_empty W8 _ _ _ _) ?_⟩
      rintro e W9 ⟨rfl, rfl⟩
      go_wp2_with (go_at_call 27; refine StopQ.out ?_)
      refine ⟨Calls.mono (Le.bytes_empty W8 _ _ _ _) ?_⟩
      rintro e W9 ⟨rfl, rfl⟩
      go_wp2
      go_ret
      exact ⟨rfl, HB8.out⟩)
  · by_cases hkc : 0 < cut
    all_goals (
      go_wp2_with (go_at_call 20; refine StopQ.out ?_)
      refine ⟨Calls.mono (enc_nil W4 _ _ HE4.out s HO.out) ?_⟩
      rintro e W5 ⟨rfl, hb5⟩
      go_wp2_with (go_at_call 20; refine StopQ.out ?_)
      refine ⟨Calls.mono (enc_nil W5 _ _ (HE4.out.keep hb5) s HO.out) ?_⟩
      rintro e W6 ⟨rfl, hb6⟩
      go_wp2_with (go_at_call 20; refine StopQ.out ?_)
      all_goals (
        refine ⟨Calls.mono (enc_nil W6 _ _ ((HE4.out.keep hb5).keep hb6) s HO.out) ?_⟩
        rintro e W7 ⟨rfl, hb7⟩
        go_wp2_with (go_at_call 29; refine StopQ.out ?_)
        refine ⟨Calls.mono (siz_nil W7 _ _ (((HE4.out.keep hb5).keep hb6).keep hb7) s HO.out) ?_⟩
        rintro e W8 ⟨rfl, hb8⟩
        have HB8 : Hid (Below w.heap.size w W8) := HB4.out.trans ((hb5.trans ((hb6.trans ((hb7.trans (hb8.mono hb7.size)).mono hb6.size)).mono hb5.size)).mono HB4.out.size)
        clear hb5 hb6 hb7 hb8
        go_wp2_with (go_at_call 27; refine StopQ.out ?_)
        refine ⟨Calls.mono (Le.bytes_empty W8 _ _ _ _) ?_⟩
        rintro e W9 ⟨rfl, rfl⟩
        go_wp2_with (go_at_call 27; refine StopQ.out ?_)
        refine ⟨Calls.mono (Le.bytes_empty W8 _ _ _ _) ?_⟩
        rintro e W9 ⟨rfl, rfl⟩
        go_wp2
        go_ret
        exact ⟨rfl, HB8.out⟩))
theorem joined_law (w : World) (a : Option Addr) (n cap : Nat) (cut s : Int) (L : List Nd) (hV : NV w a n cap L) (hT : TagsOk L) (hc : a = none → cap = 0) (hcut : cut ≤ 9223372036854775807) (hE : EG w) : Calls Tryz.prog 7 #[.slice a n cap, .int .i64 cut, .int .i64 s] w fun e w' => e = .returned (.bool true) ∧ Below w.heap.size w w' := by
  by_cases hn : n = 0
  · subst hn
    exact joined_zero w a cap cut s hc hE
  · obtain ⟨b, off, rfl, -⟩ := hV.lies (by omega)
    exact joined_some w b off n cap cut s L hV (by omega) hcut hT hE
end Go.Proofs.YtoikdpjjcnmgeaaGreatDoor
end
