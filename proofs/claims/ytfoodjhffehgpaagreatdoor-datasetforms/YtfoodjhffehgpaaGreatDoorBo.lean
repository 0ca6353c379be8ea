import Derived.Test.YtfoodjhffehgpaaGreatDoorVv
import Derived.Test.YtfoodjhffehgpaaGreatDoorBm
import Derived.Test.YtfoodjhffehgpaaGreatDoorGc
import Derived.Test.YtfoodjhffehgpaaGreatDoorBe
import Derived.Test.YtfoodjhffehgpaaGreatDoorBn
import Derived.Deep.RegionHeld3
section
/-
  DERIVED. Decode, whole: the program's.
-/
namespace Go.Proofs.YtfoodjhffehgpaaGreatDoor
open Go Go.Proofs Go.RowKit
open Wk (Nd nds)
open Go.Sort

theorem own_off {W : World} {base p i : Nat} {u : Value} {e : TypeId} {z : Nat} {v : Value} {n : Nat} {xs : List Value} (h : W.ownsRow base e z v n xs) (hp : p < base) : (W.setCell ⟨p, i, none⟩ u).ownsRow base e z v n xs :=
  ⟨h.1, h.2.imp id (fun ⟨g, cap, cur, h1, h2, h3, h4⟩ => ⟨g, cap, cur, h1, h2, (heap_setCell_other W ⟨p, i, none⟩ g u (fun e => by have e : g = p := e; omega)).trans h3, h4⟩)⟩

set_option maxRecDepth 100000 in
set_option maxHeartbeats 4000000 in
theorem dec_main (w : World) (a : Option Addr) (n cap : Nat) (ys : List UInt8) (x : Bool) (hV : BV w.heap.size w a n cap ys) : Calls Tryz.prog 8 #[.slice a n cap, .int .i64 (if x = true then 2 else 1)] w (DcP w (if x = true then 2 else 1) ys) := by
  have hmf : ∀ (fn : Fn) (first cap : Array Value) (w : World), (Instr.makeFunc fn first cap).run Tryz.prog w = .ok (.func fn first cap) w := fun _ _ _ _ => rfl
  have cS := syn_ok ((w.alloc (.cells #[.slice none 0 0] 22)).alloc (.cells #[.nilIface] 39)) x
  have HN : Hid (ys.length ≤ 1048576 ∧ n = ys.length) := ⟨by rw [← hV.l]; exact hV.s, hV.l⟩
  have b1 : decide ((1048576 : Int) < (n : Int)) = false := decide_eq_false (by have := hV.s; omega)
  have b2 : decide (1048576 < n) = false := decide_eq_false (by have := hV.s; omega)
  obtain ⟨s, hs⟩ : ∃ s : Int, (if x = true then 2 else 1) = s := ⟨_, rfl⟩
  have HS : Hid ((s = 1 ∨ s = 2) ∧ decide (s = 2) = x) := by
    cases x
    · obtain rfl : (1 : Int) = s := hs
      exact ⟨.inl rfl, by decide⟩
    · obtain rfl : (2 : Int) = s := hs
      exact ⟨.inr rfl, by decide⟩
  rw [hs] at cS ⊢
  obtain ⟨X, hX⟩ : ∃ X, ((w.alloc (.cells #[.slice none 0 0] 22)).alloc (.cells #[.nilIface] 39)).setCell ⟨w.heap.size + 1, 0, none⟩ .nilIface = X := ⟨_, rfl⟩
  have HBX : Hid (Below w.heap.size w X) := by rw [← hX]; exact (((Below.refl _ w).alloc (Nat.le_refl _) _).alloc (by simp) _).setCell (p := ⟨w.heap.size + 1, 0, none⟩) (Nat.le_succ _) _
  have x4 : X.cell? ⟨w.heap.size, 0, none⟩ = some (.slice none 0 0) := by rw [← hX]; exact (Rp.cell_set_off (by omega)).trans (by simp)
  have x5 : X.cell? ⟨w.heap.size + 1, 0, none⟩ = some .nilIface := by rw [← hX]; exact Rp.cell_set_eq (u := .nilIface) (by simp)
  have y4 : X.frozen? ⟨w.heap.size, 0, none⟩ = false := by rw [← hX]; simp
  have y5 : X.frozen? ⟨w.heap.size + 1, 0, none⟩ = false := by rw [← hX]; simp
  have cN := newReader_any X a n cap x
  rw [exV_eq] at cN
  have HVX : Hid (∀ W, Below X.heap.size X W → BV X.heap.size W a n cap ys) := fun W hW => hV.up (HBX.out.trans (hW.mono HBX.out.size)) HBX.out.size
  have n1 : w.heap.size ≠ w.heap.size + 1 := by omega
  have n2 : w.heap.size + 1 ≠ w.heap.size := by omega
  clear hs hV
  go_enter_defers Tryz.func8, Tryz.ntmps8
  go_wp2_with (go_at_call 26; refine StopV.out ?_)
  refine ⟨Calls.mono cS ?_⟩
  rintro e W1 ⟨rfl, rfl⟩
  clear cS
  go_wp2_with (go_at_call 29; refine StopV.out ?_)
  refine ⟨Calls.mono cN ?_⟩
  rintro e W1 ⟨rfl, hp1, hb1⟩
  have cR := read_any W1 X.heap.size (X.heap.size + 1) a n cap ys x _ _ hp1.out (HVX.out W1 hb1.out)
  clear cN
  go_wp2_with (go_at_call 30; refine StopV.out ?_)
  refine ⟨Calls.mono cR ?_⟩
  rintro e W2 ⟨he, hb2⟩
  have hb12 : Below X.heap.size X W2 := hb1.out.trans hb2
  have HB12 : Hid _ := hb12
  have c4 := (hb12.cell (Rp.cell_lt x4)).trans x4
  have c5 := (hb12.cell (Rp.cell_lt x5)).trans x5
  have z4 : W2.frozen? ⟨w.heap.size, 0, none⟩ = false := (hb12.frozen (p := ⟨w.heap.size, 0, none⟩) (Rp.cell_lt x4)).trans y4
  have z5 : W2.frozen? ⟨w.heap.size + 1, 0, none⟩ = false := (hb12.frozen (p := ⟨w.heap.size + 1, 0, none⟩) (Rp.cell_lt x5)).trans y5
  have c51 : ∀ v, (W2.setCell ⟨w.heap.size, 0, none⟩ v).cell? ⟨w.heap.size + 1, 0, none⟩ = some .nilIface := fun v => (Rp.cell_set_off n1).trans c5
  clear cR hb1 hb2 hp1
  rcases he with ⟨a', c', ⟨q, rfl, hc⟩, hE⟩ | ⟨nv, M, rfl, hr, hE, hM⟩
  · obtain ⟨W9, hW9⟩ : ∃ W9, (W2.setCell ⟨w.heap.size, 0, none⟩ (.slice none 0 0)).setCell ⟨w.heap.size + 1, 0, none⟩ (.iface 75 (.pointer (some ⟨q, 0, none⟩))) = W9 := ⟨_, rfl⟩
    have HCH : Hid (Chain W9 [(dsB, (a' : Int))] (c' : Int) (.iface 75 (.pointer (some ⟨q, 0, none⟩)))) := by
      rw [← hW9]
      exact chain_set (u := .nilIface) (chain_set (u := .slice none 0 0) hc c4 (fun _ h => nomatch h)) (c51 _) (fun _ h => nomatch h)
    have HBL : Hid (Below w.heap.size w W9) := by
      rw [← hW9]
      exact ((HBX.out.trans (HB12.out.mono HBX.out.size)).setCell (p := ⟨w.heap.size, 0, none⟩) (Nat.le_refl _) _).setCell (p := ⟨w.heap.size + 1, 0, none⟩) (Nat.le_succ _) _
    have u4 : W9.cell? ⟨w.heap.size, 0, none⟩ = some (.slice none 0 0) := by rw [← hW9]; exact (Rp.cell_set_off n2).trans (Rp.cell_set_eq c4)
    have u5 : W9.cell? ⟨w.heap.size + 1, 0, none⟩ = some (.iface 75 (.pointer (some ⟨q, 0, none⟩))) := by rw [← hW9]; exact Rp.cell_set_eq (c51 _)
    refine leaves_cons (f := 28) (args := #[.pointer (some ⟨w.heap.size, 0, none⟩), .pointer (some ⟨w.heap.size + 1, 0, none⟩)]) (by simp) (by simp [go_sem]) ?_
    refine (catch_panicking w.heap.size (w.heap.size + 1) q [] W2 _ _ c4 z4 c5 z5 n1).mono ?_
    rintro e u' w'' ⟨rfl, rfl, rfl⟩
    rw [hW9]
    simp [Leaves, settle, results, Tryz.results8, go_sem, u4, u5]
    exact ⟨_, _, rfl, .inl ⟨a', c', .inr (.inr ⟨HS.out.1, HN.out.1, by rw [HS.out.2, ← HN.out.2]; exact hE⟩), rfl, HCH.out⟩, HBL⟩
  · obtain ⟨W9, hW9⟩ : ∃ W9, (W2.setCell ⟨w.heap.size, 0, none⟩ nv).setCell ⟨w.heap.size + 1, 0, none⟩ .nilIface = W9 := ⟨_, rfl⟩
    have HBL : Hid (Below w.heap.size w W9) := by
      rw [← hW9]
      exact ((HBX.out.trans (HB12.out.mono HBX.out.size)).setCell (p := ⟨w.heap.size, 0, none⟩) (Nat.le_refl _) _).setCell (p := ⟨w.heap.size + 1, 0, none⟩) (Nat.le_succ _) _
    have u4 : W9.cell? ⟨w.heap.size, 0, none⟩ = some nv := by rw [← hW9]; exact (Rp.cell_set_off n2).trans (Rp.cell_set_eq c4)
    have u5 : W9.cell? ⟨w.heap.size + 1, 0, none⟩ = some .nilIface := by rw [← hW9]; exact Rp.cell_set_eq (c51 _)
    have HRW : Hid (W9.ownsRow w.heap.size 48 4 nv M.length (nds M)) := by
      rw [← hW9]
      exact own_low (own_off (own_off hr (Rp.cell_lt x4)) (Rp.cell_lt x5)) HBX.out.size
    obtain ⟨na, ncap, rfl, -⟩ := own_form hr
    have HE : Hid _ := hE
    have HMO : Hid _ := hM
    clear hr hE hM
    obtain ⟨L, hL⟩ : ∃ L, M.length = L := ⟨_, rfl⟩
    have HL : Hid _ := hL
    rw [hL] at hW9 u4 HRW
    rw [hL]
    clear hL
    go_wp2
    refine leaves_cons (f := 28) (args := #[.pointer (some ⟨w.heap.size, 0, none⟩), .pointer (some ⟨w.heap.size + 1, 0, none⟩)]) (by simp) (by simp [go_sem]) ?_
    refine (catch_idle w.heap.size (w.heap.size + 1) _).mono ?_
    rintro e u' w'' ⟨rfl, rfl, rfl⟩
    simp [Leaves, settle, results, Tryz.results8, go_sem, u4, u5]
    exact ⟨_, _, rfl, .inr ⟨M, ⟨HS.out.1, HN.out.1, by rw [HS.out.2, ← HN.out.2]; exact HE.out⟩, rfl, by rw [HL.out]; exact HRW.out, HMO.out.1, by rw [← HL.out]; exact HMO.out.2⟩, HBL⟩
/-- Bytes that come in, of whatever length. -/
structure BA (base : Nat) (W : World) (a : Option Addr) (n cap : Nat) (ys : List UInt8) : Prop where
  l : n = ys.length
  c : n ≤ cap
  s : n ≤ 9223372036854775807
  m : ∀ k, k < n → ∃ b off, a = some ⟨b, off, none⟩ ∧ b < base ∧ W.cell? ⟨b, off + k, none⟩ = some (.int .u8 (gB ys k : Int))
theorem decode_any (w : World) (a : Option Addr) (n cap : Nat) (ys : List UInt8) (s : Int) (hV : BA w.heap.size w a n cap ys) : Calls Tryz.prog 8 #[.slice a n cap, .int .i64 s] w (DcP w s ys) := by
  by_cases h : s ≠ 1 ∧ s ≠ 2
  · exact dec_no w a n cap ys s h
  · obtain ⟨x, rfl⟩ : ∃ x : Bool, (if x = true then 2 else 1) = s := by
      by_cases h2 : s = 2
      · exact ⟨true, h2.symm⟩
      · refine ⟨false, ?_⟩
        show (1 : Int) = s
        omega
    by_cases hl : 1048576 < n
    · exact dec_long w a n cap ys x hV.l hl hV.s
    · exact dec_main w a n cap ys x ⟨hV.l, hV.c, by omega, hV.m⟩
end Go.Proofs.YtfoodjhffehgpaaGreatDoor
end

section
/-
  DERIVED. There and back: the program's Encode and Decode where nothing is refused; the small data set that the laws ask first.
-/
namespace Go.Proofs.YtfoodjhffehgpaaGreatDoor
open Go Go.Proofs Go.RowKit
open Wk (Nd NV nds)
open Go.Sort

structure StopQ (p : Prop) : Prop where
  out : p
theorem ob_ba {base : Nat} {w : World} {u : Value} {ys : List UInt8} (h : Ob base w u ys) (hl : ys.length ≤ 1048576) : ∃ a c, u = .slice a ys.length c ∧ BA w.heap.size w a ys.length c ys := by
  have h0 : w.ownsRow base 5 1 u ys.length (bvs ys) := h
  rcases h0.2 with ⟨hv, he⟩ | ⟨g, c, cur, hv, -⟩
  · have e0 : ys.length = 0 := by
      subst hv
      have := he
      first | exact this | (have := congrArg List.length this; rw [bvs_len] at this; simpa using this) | omega | simp_all
    exact ⟨none, 0, by rw [hv, e0], rfl, by omega, by omega, fun k hk => by omega⟩
  · subst hv
    refine ⟨_, c, rfl, rfl, Wk.own_cap h0, by omega, fun k hk => ⟨g, 0, rfl, (World.ownsRow.lt h0 g rfl).2, ?_⟩⟩
    rw [Nat.zero_add]
    refine (World.ownsRow.cellAt h0 k (by omega)).trans ?_
    unfold bvs
    rw [List.getElem?_map, List.getElem?_eq_getElem hk]
    unfold gB
    rw [List.getD_eq_getElem?_getD, List.getElem?_eq_getElem hk]
    rfl
theorem mok_nums {M : List Nd} (h : MOk M) : ∀ x ∈ M, -9223372036854775808 ≤ x.n ∧ x.n ≤ 9223372036854775807 := fun x hx => by
  have h1 := (h.a x hx).n0
  have h2 := (h.a x hx).n1
  have h3 := h.l
  omega
theorem own_nvq {w : World} {b m : Nat} {u : Value} {M : List Nd} (h : w.ownsRow b 48 4 u m (nds M)) (hm : m = M.length) (hM : MOk M) : ∃ a c, u = .slice a m c ∧ NV w a m c M := by
  rcases h.2 with ⟨hv, he⟩ | ⟨g, c, cur, hv, -⟩
  · have e0 : m = 0 := by
      first | exact he.1 | omega | simp_all
    exact ⟨none, 0, by rw [hv, e0], hm, by omega, by omega, fun h => absurd h (by omega), mok_nums hM⟩
  · subst hv
    refine ⟨_, c, rfl, hm, Wk.own_cap h, by have := hM.l; omega, fun _ => ⟨g, 0, rfl, fun i hi => ?_⟩, mok_nums hM⟩
    have hg : ∀ k, k < 4 → w.cell? ⟨g, 0 + i * 4 + k, none⟩ = ((M[i]'hi).cs)[k]? := fun k hk => by
      rw [Nat.zero_add]
      refine (World.ownsRow.cellAt h (i * 4 + k) (by omega)).trans ?_
      exact Wk.nds_get M i hi k hk
    exact ⟨hg 0 (by decide), hg 1 (by decide), hg 2 (by decide), hg 3 (by decide)⟩
/-- Encode where nothing is refused. -/
theorem enc_ok (w : World) (a : Option Addr) (n cap : Nat) (L : List Nd) (hV : NV w a n cap L) (hT : TagsOk L) (hE : EG w) (s : Int) (h : errOf s L = none) : Calls Tryz.prog 10 #[.slice a n cap, .int .i64 s] w fun e w' => ∃ b c, e = .returned (.tuple #[.slice b (outB s L).length c, .nilIface]) ∧ Hid (BA w'.heap.size w' b (outB s L).length c (outB s L)) ∧ Hid (Below w.heap.size w w') := by
  refine (encode_any w a n cap L hV hT hE s).mono ?_
  rintro e w' ⟨u, ve, rfl, ho, -, hp, hb⟩
  obtain ⟨h1, h2, h3, h4⟩ := err_ok h
  have hl : (outB s L).length ≤ 1048576 := (back_ok h hT).2.1
  obtain ⟨b, c, rfl, hB⟩ := ob_ba ho hl
  rcases hp with ⟨-, rfl⟩ | ⟨ls, k, e, -⟩
  · exact ⟨b, c, rfl, hB, hb⟩
  · rw [h] at e; cases e
/-- Decode where nothing is refused. -/
theorem dec_ok (w : World) (a : Option Addr) (n cap : Nat) (ys : List UInt8) (s : Int) (M : List Nd) (hV : BA w.heap.size w a n cap ys) (h : OkD s ys M) : Calls Tryz.prog 8 #[.slice a n cap, .int .i64 s] w fun e w' => ∃ b c, e = .returned (.tuple #[.slice b M.length c, .nilIface]) ∧ Hid (NV w' b M.length c M) ∧ Hid (Below w.heap.size w w') := by
  refine (decode_any w a n cap ys s hV).mono ?_
  rintro e w' ⟨nv, ve, rfl, hr, hb⟩
  obtain ⟨g1, g2, g3⟩ := h
  rcases hr.out with ⟨x, c, he, -⟩ | ⟨M', ho, rfl, hw, hm, -⟩
  · exfalso
    rcases he with ⟨h1, h2, _⟩ | ⟨_, h2, _⟩ | ⟨_, _, h3⟩
    · rcases g1 with g | g <;> contradiction
    · omega
    · have := h3.one g3
      cases this
  · have e := ho.2.2.one g3
    cases e
    obtain ⟨b, c, rfl, hN⟩ := own_nvq hw rfl hm
    exact ⟨b, c, rfl, hN, hb⟩

/-- The small data set. -/
def alN : List Nd := [⟨524384, 4, 0, ⟨#[67, 84, 49]⟩⟩, ⟨4194560, 18, 1, ⟨#[]⟩⟩, ⟨4294893568, 29, 1, ⟨#[]⟩⟩, ⟨4194313, 16, 0, ⟨#[55]⟩⟩]
theorem al_res : (res alN).2 = true := by decide +kernel
theorem al_sz : (encOf false).szP alN = 38 ∧ (encOf true).szP alN = 42 := by decide +kernel
theorem al_err1 : errOf 1 alN = none := err_none (by decide) al_res (by show ¬ 1048576 < (encOf false).szP alN; rw [al_sz.1]; decide)
theorem al_err2 : errOf 2 alN = none := err_none (by decide) al_res (by show ¬ 1048576 < (encOf true).szP alN; rw [al_sz.2]; decide)
theorem al_tags : TagsOk alN := by
  intro x hx
  simp only [alN, List.mem_cons, List.not_mem_nil, or_false] at hx
  rcases hx with rfl | rfl | rfl | rfl <;> exact ⟨by decide, by decide⟩
theorem al_bk (x : Bool) : alN.map (bkN x) = alN := by
  cases x
  · kernel_rfl
  · exact List.map_id _
theorem out_len {s : Int} {L : List Nd} (h : errOf s L = none) : (outB s L).length = (encS s).szP L := by
  obtain ⟨h1, h2, h3, h4⟩ := err_ok h
  rw [h4]
  exact wr_len _ _ _ (Nat.le_refl _) (res_good h2)
theorem al_l1 : (outB 1 alN).length = 38 := (out_len al_err1).trans al_sz.1
theorem al_l2 : (outB 2 alN).length = 42 := (out_len al_err2).trans al_sz.2

theorem al_nv {w : World} {g : Nat} {cs : Array Value} (h : w.heap[g]? = some (.cells cs 48)) (hc : cs = #[.int .u32 524384, .int .i64 4, .int .i64 0, .string ⟨#[67, 84, 49]⟩, .int .u32 4194560, .int .i64 18, .int .i64 1, .string ⟨#[]⟩, .int .u32 4294893568, .int .i64 29, .int .i64 1, .string ⟨#[]⟩, .int .u32 4194313, .int .i64 16, .int .i64 0, .string ⟨#[55]⟩]) : NV w (some ⟨g, 0, none⟩) 4 4 alN := by
  subst hc
  refine ⟨rfl, Nat.le_refl _, by decide, fun _ => ⟨g, 0, rfl, fun i hi => ?_⟩, fun x hx => ?_⟩
  · have hi : i < 4 := hi
    have hc : ∀ j v, #[Value.int .u32 524384, .int .i64 4, .int .i64 0, .string ⟨#[67, 84, 49]⟩, .int .u32 4194560, .int .i64 18, .int .i64 1, .string ⟨#[]⟩, .int .u32 4294893568, .int .i64 29, .int .i64 1, .string ⟨#[]⟩, .int .u32 4194313, .int .i64 16, .int .i64 0, .string ⟨#[55]⟩][j]? = some v → w.cell? ⟨g, j, none⟩ = some v := fun j v e => Tb.cell_blk h e
    match i, hi with
    | 0, _ => exact ⟨hc 0 _ rfl, hc 1 _ rfl, hc 2 _ rfl, hc 3 _ rfl⟩
    | 1, _ => exact ⟨hc 4 _ rfl, hc 5 _ rfl, hc 6 _ rfl, hc 7 _ rfl⟩
    | 2, _ => exact ⟨hc 8 _ rfl, hc 9 _ rfl, hc 10 _ rfl, hc 11 _ rfl⟩
    | 3, _ => exact ⟨hc 12 _ rfl, hc 13 _ rfl, hc 14 _ rfl, hc 15 _ rfl⟩
  · simp only [alN, List.mem_cons, List.not_mem_nil, or_false] at hx
    rcases hx with rfl | rfl | rfl | rfl <;> exact ⟨by decide, by decide⟩
theorem EG.keep {w w' : World} (h : EG w) (hb : Below w.heap.size w w') : EG w' := (hb.cell (Rp.cell_lt h)).trans h
/-- There and back, for the small data set. -/
theorem al_ok (s : Int) (h : s = 1 ∨ s = 2) : errOf s alN = none ∧ OkD s (outB s alN) alN ∧ 38 ≤ (outB s alN).length := by
  rcases h with rfl | rfl
  · exact ⟨al_err1, by have := back_ok al_err1 al_tags; rw [al_bk] at this; exact this, by rw [al_l1]; decide⟩
  · exact ⟨al_err2, by have := back_ok al_err2 al_tags; rw [al_bk] at this; exact this, by rw [al_l2]; decide⟩

set_option maxRecDepth 100000 in
set_option maxHeartbeats 4000000 in
theorem alive_any (w : World) (hE : EG w) : Calls Tryz.prog 4 #[] w fun e w' => e = .returned (.bool true) ∧ Below w.heap.size w w' := by
  obtain ⟨W0, hW0⟩ : ∃ W0, w.alloc (.cells #[.int .u32 524384, .int .i64 4, .int .i64 0, .string ⟨#[67, 84, 49]⟩, .int .u32 4194560, .int .i64 18, .int .i64 1, .string ⟨#[]⟩, .int .u32 4294893568, .int .i64 29, .int .i64 1, .string ⟨#[]⟩, .int .u32 4194313, .int .i64 16, .int .i64 0, .string ⟨#[55]⟩] 48) = W0 := ⟨_, rfl⟩
  have hb0 : Below w.heap.size w W0 := by rw [← hW0]; exact (Below.refl _ _).alloc (Nat.le_refl _) _
  have HN : Hid (NV W0 (some ⟨w.heap.size, 0, none⟩) 4 4 alN) := by
    refine al_nv (cs := _) ?_ rfl
    rw [← hW0]
    exact Array.getElem?_push_size
  have HE0 : Hid (EG W0) := hE.keep hb0
  have HB0 : Hid (Below w.heap.size w W0) := hb0
  have q1 := al_ok 1 (.inl rfl)
  have q2 := al_ok 2 (.inr rfl)
  have b1 : ¬ (((outB 1 alN).length : Nat) : Int) < 38 := by omega
  have b2 : ¬ (((outB 2 alN).length : Nat) : Int) < 38 := by omega
  have Q1 : Hid (errOf 1 alN = none ∧ OkD 1 (outB 1 alN) alN) := ⟨q1.1, q1.2.1⟩
  have Q2 : Hid (errOf 2 alN = none ∧ OkD 2 (outB 2 alN) alN) := ⟨q2.1, q2.2.1⟩
  clear hE hb0 q1 q2
  go_enter Tryz.func4, Tryz.ntmps4
  go_wp2
  refine wp_loop_rounds 3 ?_
  rw [rounds_succ]
  go_wp2_with (go_at_call 10; refine StopQ.out ?_)
  refine ⟨Calls.mono (enc_ok W0 _ 4 4 alN HN.out al_tags HE0.out 1 Q1.out.1) ?_⟩
  rintro e W1 ⟨a1, c1, rfl, hB1, hb1⟩
  have HN1 : Hid (NV W1 (some ⟨w.heap.size, 0, none⟩) 4 4 alN) := HN.out.on hb1.out
  go_wp2_with (go_at_call 8; refine StopQ.out ?_)
  refine ⟨Calls.mono (dec_ok W1 a1 _ c1 (outB 1 alN) 1 alN hB1.out Q1.out.2) ?_⟩
  rintro e W2 ⟨a2, c2, rfl, hN2, hb2⟩
  have HN2 : Hid (NV W2 (some ⟨w.heap.size, 0, none⟩) 4 4 alN) := HN1.out.on hb2.out
  go_wp2_with (go_at_call 9; refine StopQ.out ?_)
  refine ⟨Calls.mono (Wk.nodes_same W2 a2 _ 4 c2 4 alN hN2.out HN2.out) ?_⟩
  rintro e W3 ⟨rfl, m3, rfl⟩
  have hb3 := Wk.below_drw (Below.refl W2.heap.size W2) m3
  obtain ⟨W3, hW3⟩ : ∃ W3, W2.drewN m3 = W3 := ⟨_, rfl⟩
  rw [hW3] at hb3 ⊢
  have hX3 : Below W0.heap.size W0 W3 := hb1.out.trans ((hb2.out.trans (hb3.mono hb2.out.size)).mono hb1.out.size)
  have HN3 : Hid (NV W3 (some ⟨w.heap.size, 0, none⟩) 4 4 alN) := HN.out.on hX3
  have HE3 : Hid (EG W3) := HE0.out.keep hX3
  have HB3 : Hid (Below w.heap.size w W3) := HB0.out.trans (hX3.mono HB0.out.size)
  clear hX3 hb3 hW3 hb1 hb2 hB1 hN2 HN1 HN2 hW0 HN HE0 HB0
  go_wp2
  rw [rounds_succ]
  go_wp2_with (go_at_call 10; refine StopQ.out ?_)
  refine ⟨Calls.mono (enc_ok W3 _ 4 4 alN HN3.out al_tags HE3.out 2 Q2.out.1) ?_⟩
  rintro e W4 ⟨a4, c4, rfl, hB4, hb4⟩
  have HN4 : Hid (NV W4 (some ⟨w.heap.size, 0, none⟩) 4 4 alN) := HN3.out.on hb4.out
  go_wp2_with (go_at_call 8; refine StopQ.out ?_)
  refine ⟨Calls.mono (dec_ok W4 a4 _ c4 (outB 2 alN) 2 alN hB4.out Q2.out.2) ?_⟩
  rintro e W5 ⟨a5, c5, rfl, hN5, hb5⟩
  have HN5 : Hid (NV W5 (some ⟨w.heap.size, 0, none⟩) 4 4 alN) := HN4.out.on hb5.out
  go_wp2_with (go_at_call 9; refine StopQ.out ?_)
  refine ⟨Calls.mono (Wk.nodes_same W5 a5 _ 4 c5 4 alN hN5.out HN5.out) ?_⟩
  rintro e W6 ⟨rfl, m6, rfl⟩
  have HB6 : Hid (Below w.heap.size w (W5.drewN m6)) := HB3.out.trans ((hb4.out.trans ((hb5.out.trans ((Wk.below_drw (Below.refl W5.heap.size W5) m6).mono hb5.out.size)).mono hb4.out.size)).mono HB3.out.size)
  go_wp2
  rw [rounds_succ]
  go_wp2
  go_ret
  exact ⟨rfl, HB6.out⟩
end Go.Proofs.YtfoodjhffehgpaaGreatDoor
end

section
/-
  DERIVED. How many bytes elements have: the document's count.
-/
namespace Go.Proofs.YtfoodjhffehgpaaGreatDoor
open Go Go.Proofs Go.RowKit
open Wk (Nd NV goN nxt)

theorem hs_le (x : Bool) (a : Nd) : (encOf x).hs a ≤ 12 := by
  cases x with
  | false => show 8 ≤ 12; omega
  | true => show (if Rp.lo (Rp.vn a.v) = true then 12 else 8) ≤ 12; split <;> omega
theorem szD_le (x : Bool) : ∀ (f : Nat) (b : Bool) (M : List Nd), Good M → (encOf x).szD f b M ≤ M.length * 65600
  | 0, b, M, _ => by cases b <;> exact Nat.zero_le _
  | f + 1, b, [], _ => by cases b <;> exact Nat.zero_le _
  | f + 1, false, a :: r, hg => by
    have hr : Good r := fun y hy => hg y (List.mem_cons_of_mem _ hy)
    have h1 := szD_le x f true (r.take (goN r a.n.toNat)) (hr.take _)
    have h2 := szD_le x f false (r.drop (goN r a.n.toNat)) (hr.drop _)
    have hs := hs_le x a
    have hp : ((encOf x).pv a).length ≤ 65536 := by rw [encOf_pv, pvL_len]; have := (hg a List.mem_cons_self).2.1; omega
    have hl := Wk.goN_le r a.n.toNat
    rw [List.length_take, Nat.min_eq_left hl] at h1
    rw [List.length_drop] at h2
    rw [Enc.szD, List.length_cons]
    split <;> (try split) <;> omega
  | f + 1, true, a :: r, hg => by
    have hr : Good r := fun y hy => hg y (List.mem_cons_of_mem _ hy)
    have h1 := szD_le x f false (r.take (goN r a.n.toNat)) (hr.take _)
    have h2 := szD_le x f true (r.drop (goN r a.n.toNat)) (hr.drop _)
    have hl := Wk.goN_le r a.n.toNat
    rw [List.length_take, Nat.min_eq_left hl] at h1
    rw [List.length_drop] at h2
    rw [Enc.szD, List.length_cons]
    omega
theorem und_open (x : Bool) {a : Nd} (hv : a.v = 18) : (encOf x).und a = (!x && !(fnd a).isSome) := by
  cases x with
  | false => show (decide (a.v = 18) && !(fnd a).isSome) = _; rw [decide_eq_true hv]; rfl
  | true => rfl
theorem hs_if (x : Bool) (a : Nd) : (if (x && Rp.lo (Rp.vn a.v)) = true then 12 else 8) = (encOf x).hs a := by cases x <;> rfl
theorem good_sub {L : List Nd} (h : Good L) (i e : Nat) : Good (sub L i e) := fun x hx => h x (sub_mem hx)
/-- A list that may be counted. -/
structure Ls (W : World) (a : Option Addr) (n cap : Nat) (L : List Nd) : Prop where
  nv : NV W a n cap L
  tg : TagsOk L
  gd : Good L
  n40 : n ≤ 4096
def RsC (m : Nat) : Prop := ∀ (W : World) (a : Option Addr) (n cap : Nat) (L : List Nd) (x : Bool) (i e : Nat), e - i ≤ m → Ls W a n cap L → i ≤ e → e ≤ n → Lev L i e →
  Calls Tryz.prog 35 #[.slice a n cap, .int .i64 (i : Int), .int .i64 (e : Int), .bool x] W fun r W' => r = .returned (.int .i64 ((encOf x).sD false (sub L i e) : Int)) ∧ Below W.heap.size W W'

set_option maxRecDepth 100000 in
set_option maxHeartbeats 8000000 in
theorem rs_step (m : Nat) (hm : ∀ q, q < m → RsC q) : RsC m := by
  intro W a n cap L x i e hem hV hie hen hlev
  have HM : Hid (∀ (W : World) (a : Option Addr) (n cap : Nat) (L : List Nd) (x : Bool) (i e : Nat), e - i < m → Ls W a n cap L → i ≤ e → e ≤ n → Lev L i e → Calls Tryz.prog 35 #[.slice a n cap, .int .i64 (i : Int), .int .i64 (e : Int), .bool x] W fun r W' => r = .returned (.int .i64 ((encOf x).sD false (sub L i e) : Int)) ∧ Below W.heap.size W W') := fun W a n cap L x i e h => hm (e - i) h W a n cap L x i e (Nat.le_refl _)
  have HV : Hid (Ls W a n cap L) := hV
  have HN : Hid (n = L.length) := hV.nv.len
  have hn40 := hV.n40
  obtain ⟨T, hT⟩ : ∃ T, (encOf x).sD false (sub L i e) = T := ⟨_, rfl⟩
  have hTl : T ≤ 300000000 := by
    have h1 := szD_le x (sub L i e).length false (sub L i e) (good_sub hV.gd _ _)
    have h2 : (encOf x).szD (sub L i e).length false (sub L i e) = T := hT
    rw [sub_len (by have := hV.nv.len; omega)] at h1 h2
    rw [h2] at h1
    omega
  have HTL : Hid (T ≤ 300000000) := hTl
  rw [hT]
  have HT : Hid (Lev L i e ∧ (encOf x).sD false (sub L i e) = T) := ⟨hlev, hT⟩
  clear hm hV hlev hT
  go_enter Tryz.func35, Tryz.ntmps35
  go_wp2
  go_loopw [1, 9] (fun x1 x9 wr => ∃ p k : Nat, x1 = .int .i64 (p : Int) ∧ x9 = .int .i64 (k : Int) ∧ i ≤ p ∧ p ≤ e ∧ k ≤ 300000000 ∧ Hid (Lev L p e ∧ k + (encOf x).sD false (sub L p e) = T ∧ Below W.heap.size W wr)) (fun x1 _ _ => n - (intOf x1).toNat)
  case atStart => exact ⟨i, 0, rfl, rfl, Nat.le_refl _, hie, by omega, HT.out.1, by rw [HT.out.2]; omega, Below.refl _ _⟩
  case round =>
    obtain ⟨p, k, rfl, rfl, hip, hpe, hk, HI⟩ := hrel
    by_cases hlt : p < e
    · have hltI : (p : Int) < (e : Int) := by omega
      have hpL : p < L.length := by rw [← HN.out]; omega
      have heL : e ≤ L.length := by rw [← HN.out]; exact hen
      have hnv := HV.out.nv.on HI.out.2.2
      have cn := Wk.nextR_in wr a n cap p L hnv (by omega) (by omega)
      obtain ⟨h1, h2, h3, h4, -⟩ := HI.out.1.next hlt heL
      have HSE := (encOf x).sD_elem HI.out.1 hlt heL
      obtain ⟨nx, hnx⟩ : ∃ nx, nxt L p = nx := ⟨_, rfl⟩
      rw [hnx] at cn h1 h2 h3 h4 HSE
      obtain ⟨b, off, hl, rfl, e0, e1, e2, e3⟩ := NV.cells hnv (j := p) (by omega)
      have htg := HV.out.tg _ (List.getElem_mem hl)
      obtain ⟨-, hss, -⟩ := HV.out.gd _ (List.getElem_mem hl)
      have hhs := hs_if x (L[p]'hl)
      have huo : (L[p]'hl).v = 18 → (encOf x).und (L[p]'hl) = (!x && !(fnd (L[p]'hl)).isSome) := und_open x
      have hpvp : (encOf x).pv (L[p]'hl) = pvL (L[p]'hl).v (L[p]'hl).s := encOf_pv x _
      have hh12 := hs_le x (L[p]'hl)
      generalize L[p]'hl = q at e0 e1 e2 e3 htg hss hhs huo hpvp hh12 HSE
      obtain ⟨t, v, z, s⟩ := q
      simp only at e0 e1 e2 e3 htg hss hhs huo hpvp HSE
      obtain ⟨tn, rfl⟩ : ∃ tn : Nat, t = (tn : Int) := ⟨t.toNat, by omega⟩
      have htn : tn < 4294967296 := by omega
      obtain ⟨hh, hhh⟩ : ∃ hh, (encOf x).hs ⟨(tn : Int), v, z, s⟩ = hh := ⟨_, rfl⟩
      rw [hhh] at hhs HSE hh12
      have ch := fun X => rhs_any X v x hh hhs
      have HLN : Hid (Lev L (p + 1) nx ∧ Lev L nx e) := ⟨h3, h4⟩
      have HNX : Hid (p < nx ∧ nx ≤ e) := ⟨h2, h1⟩
      have hnxe : nx ≤ e := h1
      have hpnx : p < nx := h2
      have HWr : Hid (Below W.heap.size W wr) := HI.out.2.2
      have HIE : Hid (k + (encOf x).sD false (sub L p e) = T) := HI.out.2.1
      have hpI : (p : Int) < (n : Int) := by omega
      clear h3 h4 hnx hhh hhs htg hnv HI h1 h2
      by_cases hv : v = 18
      · have bv : (v != 18) = false := by rw [hv]; rfl
        have HU := huo hv
        have ho2 : (!x && !(Tb.docF tn (Tb.upTo 10)).isSome) = (encOf x).und ⟨(tn : Int), v, z, s⟩ := HU.symm
        obtain ⟨un, hun⟩ : ∃ un, (encOf x).und ⟨(tn : Int), v, z, s⟩ = un := ⟨_, rfl⟩
        rw [hun] at ho2 HSE
        rw [if_neg (by simp [hv])] at HSE
        have co := fun X => open_any X tn htn v z s x un ho2
        have HSE2 : Hid _ := HSE
        clear HU huo hun ho2 HSE hpvp hv
        cases un with
        | false =>
          obtain ⟨K0, hK0⟩ : ∃ K0, k + hh = K0 := ⟨_, rfl⟩
          have HK0 : Hid (K0 + (encOf x).sD true (sub L (p + 1) nx) + (encOf x).sD false (sub L nx e) = T) := by have h5 := HIE.out; have h6 := HSE2.out; simp at h6; rw [h6] at h5; show _ = _; omega
          have hKl : K0 ≤ 300000000 := by have h5 := HK0.out; have h7 := HTL.out; omega
          have hKI : (k : Int) + (hh : Int) = (K0 : Int) := by omega
          clear HSE2 HIE hK0
          go_wp2_with (first | (go_at_call 13; refine Calls.mono cn ?_; rintro ee Wa ⟨rfl, rfl⟩) | (go_at_call 51; refine Calls.mono (ch _) ?_; rintro ee Wb ⟨rfl, hbb⟩; have f0 := (hbb.cell (p := ⟨b, off + p * 4, none⟩) (Rp.cell_lt e0)).trans e0; have f1 := (hbb.cell (p := ⟨b, off + p * 4 + 1, none⟩) (Rp.cell_lt e1)).trans e1; have f2 := (hbb.cell (p := ⟨b, off + p * 4 + 2, none⟩) (Rp.cell_lt e2)).trans e2; have f3 := (hbb.cell (p := ⟨b, off + p * 4 + 3, none⟩) (Rp.cell_lt e3)).trans e3) | (go_at_call 52; refine Calls.mono (co _) ?_; rintro ee Wc ⟨rfl, hbc⟩))
          have HWB : Hid (Below W.heap.size W Wc) := (HWr.out.trans (hbb.mono HWr.out.size)).trans (hbc.mono (Nat.le_trans HWr.out.size hbb.size))
          clear hbb hbc f0 f1 f2 f3 e0 e1 e2 e3
          go_loopw [9, 11] (fun x9 x11 wi => ∃ j kk : Nat, x11 = .int .i64 (j : Int) ∧ x9 = .int .i64 (kk : Int) ∧ p + 1 ≤ j ∧ j ≤ nx ∧ kk ≤ 300000000 ∧ Hid (Lev L j nx ∧ kk + (encOf x).sD true (sub L j nx) + (encOf x).sD false (sub L nx e) = T ∧ Below W.heap.size W wi)) (fun _ x11 _ => n - (intOf x11).toNat)
          case atStart => exact ⟨p + 1, K0, by go_num, by first | rfl | rw [hW2] | rw [← hKI], Nat.le_refl _, by omega, by omega, HLN.out.1, HK0.out, HWB.out⟩
          case round =>
            obtain ⟨j, kk, rfl, rfl, hpj, hjn, hkk, HJ⟩ := hrel
            by_cases hjl : j < nx
            · have hjI : (j : Int) < (nx : Int) := by omega
              have hnvj := HV.out.nv.on HJ.out.2.2
              have cj := Wk.nextR_in wr (some ⟨b, off, none⟩) n cap j L hnvj (by omega) (by omega)
              obtain ⟨g1, g2, g3, g4, -⟩ := HJ.out.1.next hjl (by have := HN.out; omega)
              have HSI := (encOf x).sD_item HJ.out.1 hjl (by have := HN.out; omega)
              obtain ⟨af, haf⟩ : ∃ af, nxt L j = af := ⟨_, rfl⟩
              rw [haf] at cj g1 g2 g3 g4 HSI
              obtain ⟨q1, hq1⟩ : ∃ q1, (encOf x).sD false (sub L (j + 1) af) = q1 := ⟨_, rfl⟩
              have cz := fun X (hX : Below W.heap.size W X) => HM.out X (some ⟨b, off, none⟩) n cap L x (j + 1) af (by omega) ⟨HV.out.nv.on hX, HV.out.tg, HV.out.gd, HV.out.n40⟩ (by omega) (by omega) g3
              simp only [hq1] at cz
              rw [hq1] at HSI
              have hq1l : kk + (8 + q1) ≤ 300000000 := by have := HJ.out.2.1; rw [HSI] at this; have := HTL.out; omega
              have HJ2 : Hid (Lev L af nx ∧ (kk + (8 + q1)) + (encOf x).sD true (sub L af nx) + (encOf x).sD false (sub L nx e) = T) := ⟨g4, by have := HJ.out.2.1; rw [HSI] at this; omega⟩
              have HG : Hid (j < af ∧ af ≤ nx) := ⟨g2, g1⟩
              have HWr : Hid (Below W.heap.size W wr) := HJ.out.2.2
              have hja : ((j + 1 : Nat) : Int) = (j : Int) + 1 := by omega
              simp only [hja] at cz
              have hafI : af ≤ 4096 := by omega
              clear g1 g2 g3 g4 HSI haf hq1 HJ hnvj
              go_wp2_with (go_at_call 13; refine StopB.out ?_)
              refine ⟨Calls.mono cj ?_⟩
              rintro ee Wj ⟨rfl, rfl⟩
              go_wp2_with (go_at_call 35; refine StopB.out ?_)
              refine ⟨Calls.mono (cz _ HWr.out) ?_⟩
              rintro ee Wk ⟨rfl, hbk⟩
              go_wp2
              go_roundw
              case rel => exact ⟨af, kk + (8 + q1), rfl, by rw [show ((kk + (8 + q1) : Nat) : Int) = (kk : Int) + (8 + (q1 : Int)) by omega], by have := HG.out; omega, HG.out.2, by omega, HJ2.out.1, HJ2.out.2, HWr.out.trans (hbk.mono HWr.out.size)⟩
              case measure => have := HG.out; simp [intOf]; omega
            · obtain rfl : j = nx := by omega
              have hjI : ¬ (j : Int) < (j : Int) := by omega
              have HF : Hid (kk + (encOf x).sD false (sub L j e) = T) := by have := HJ.out.2.1; rw [sub_nil (Nat.le_refl _)] at this; exact this
              go_wp2
              go_roundw
              case rel => exact ⟨j, kk, rfl, rfl, by omega, by omega, hkk, HLN.out.2, HF.out, HJ.out.2.2⟩
              case measure => simp [intOf]; omega
        | true =>
          obtain ⟨K0, hK0⟩ : ∃ K0, k + hh + 8 = K0 := ⟨_, rfl⟩
          have HK0 : Hid (K0 + (encOf x).sD true (sub L (p + 1) nx) + (encOf x).sD false (sub L nx e) = T) := by have h5 := HIE.out; have h6 := HSE2.out; simp at h6; rw [h6] at h5; show _ = _; omega
          have hKl : K0 ≤ 300000000 := by have h5 := HK0.out; have h7 := HTL.out; omega
          have hKI : (k : Int) + (hh : Int) + 8 = (K0 : Int) := by omega
          have HKE : Hid (k + hh + 8 = K0) := hK0
          clear HSE2 HIE hK0
          go_wp2_with (first | (go_at_call 13; refine Calls.mono cn ?_; rintro ee Wa ⟨rfl, rfl⟩) | (go_at_call 51; refine Calls.mono (ch _) ?_; rintro ee Wb ⟨rfl, hbb⟩; have f0 := (hbb.cell (p := ⟨b, off + p * 4, none⟩) (Rp.cell_lt e0)).trans e0; have f1 := (hbb.cell (p := ⟨b, off + p * 4 + 1, none⟩) (Rp.cell_lt e1)).trans e1; have f2 := (hbb.cell (p := ⟨b, off + p * 4 + 2, none⟩) (Rp.cell_lt e2)).trans e2; have f3 := (hbb.cell (p := ⟨b, off + p * 4 + 3, none⟩) (Rp.cell_lt e3)).trans e3) | (go_at_call 52; refine Calls.mono (co _) ?_; rintro ee Wc ⟨rfl, hbc⟩))
          have HWB : Hid (Below W.heap.size W Wc) := (HWr.out.trans (hbb.mono HWr.out.size)).trans (hbc.mono (Nat.le_trans HWr.out.size hbb.size))
          clear hbb hbc f0 f1 f2 f3 e0 e1 e2 e3
          go_loopw [9, 11] (fun x9 x11 wi => ∃ j kk : Nat, x11 = .int .i64 (j : Int) ∧ x9 = .int .i64 (kk : Int) ∧ p + 1 ≤ j ∧ j ≤ nx ∧ kk ≤ 300000000 ∧ Hid (Lev L j nx ∧ kk + (encOf x).sD true (sub L j nx) + (encOf x).sD false (sub L nx e) = T ∧ Below W.heap.size W wi)) (fun _ x11 _ => n - (intOf x11).toNat)
          case atStart => exact ⟨p + 1, K0, by go_num, by first | rfl | rw [hW2] | rw [← hKI], Nat.le_refl _, by omega, by omega, HLN.out.1, HK0.out, HWB.out⟩
          case round =>
            obtain ⟨j, kk, rfl, rfl, hpj, hjn, hkk, HJ⟩ := hrel
            by_cases hjl : j < nx
            · have hjI : (j : Int) < (nx : Int) := by omega
              have hnvj := HV.out.nv.on HJ.out.2.2
              have cj := Wk.nextR_in wr (some ⟨b, off, none⟩) n cap j L hnvj (by omega) (by omega)
              obtain ⟨g1, g2, g3, g4, -⟩ := HJ.out.1.next hjl (by have := HN.out; omega)
              have HSI := (encOf x).sD_item HJ.out.1 hjl (by have := HN.out; omega)
              obtain ⟨af, haf⟩ : ∃ af, nxt L j = af := ⟨_, rfl⟩
              rw [haf] at cj g1 g2 g3 g4 HSI
              obtain ⟨q1, hq1⟩ : ∃ q1, (encOf x).sD false (sub L (j + 1) af) = q1 := ⟨_, rfl⟩
              have cz := fun X (hX : Below W.heap.size W X) => HM.out X (some ⟨b, off, none⟩) n cap L x (j + 1) af (by omega) ⟨HV.out.nv.on hX, HV.out.tg, HV.out.gd, HV.out.n40⟩ (by omega) (by omega) g3
              simp only [hq1] at cz
              rw [hq1] at HSI
              have hq1l : kk + (8 + q1) ≤ 300000000 := by have := HJ.out.2.1; rw [HSI] at this; have := HTL.out; omega
              have HJ2 : Hid (Lev L af nx ∧ (kk + (8 + q1)) + (encOf x).sD true (sub L af nx) + (encOf x).sD false (sub L nx e) = T) := ⟨g4, by have := HJ.out.2.1; rw [HSI] at this; omega⟩
              have HG : Hid (j < af ∧ af ≤ nx) := ⟨g2, g1⟩
              have HWr : Hid (Below W.heap.size W wr) := HJ.out.2.2
              have hja : ((j + 1 : Nat) : Int) = (j : Int) + 1 := by omega
              simp only [hja] at cz
              have hafI : af ≤ 4096 := by omega
              clear g1 g2 g3 g4 HSI haf hq1 HJ hnvj
              go_wp2_with (go_at_call 13; refine StopB.out ?_)
              refine ⟨Calls.mono cj ?_⟩
              rintro ee Wj ⟨rfl, rfl⟩
              go_wp2_with (go_at_call 35; refine StopB.out ?_)
              refine ⟨Calls.mono (cz _ HWr.out) ?_⟩
              rintro ee Wk ⟨rfl, hbk⟩
              go_wp2
              go_roundw
              case rel => exact ⟨af, kk + (8 + q1), rfl, by rw [show ((kk + (8 + q1) : Nat) : Int) = (kk : Int) + (8 + (q1 : Int)) by omega], by have := HG.out; omega, HG.out.2, by omega, HJ2.out.1, HJ2.out.2, HWr.out.trans (hbk.mono HWr.out.size)⟩
              case measure => have := HG.out; simp [intOf]; omega
            · obtain rfl : j = nx := by omega
              have hjI : ¬ (j : Int) < (j : Int) := by omega
              have HF : Hid (kk + (encOf x).sD false (sub L j e) = T) := by have := HJ.out.2.1; rw [sub_nil (Nat.le_refl _)] at this; exact this
              go_wp2
              go_roundw
              case rel => exact ⟨j, kk, rfl, rfl, by omega, by omega, hkk, HLN.out.2, HF.out, HJ.out.2.2⟩
              case measure => simp [intOf]; omega
      · have bv : (v != 18) = true := by simp [hv]
        rw [if_pos hv, hpvp, pvL_len, ← pad_len (Rp.pd (Rp.vn v)) s] at HSE
        have cp := fun X => Rp.rpad_any X v s (by omega)
        have hpz := pad_len (Rp.pd (Rp.vn v)) s
        generalize Rp.padB (Rp.pd (Rp.vn v)) s = pb at cp HSE hpz
        have HSE2 : Hid _ := HSE
        obtain ⟨K0, hK0⟩ : ∃ K0, k + hh + pb.size = K0 := ⟨_, rfl⟩
        have HK0 : Hid (K0 + (encOf x).sD true (sub L (p + 1) nx) + (encOf x).sD false (sub L nx e) = T) := by have h5 := HIE.out; have h6 := HSE2.out; rw [h6] at h5; show _ = _; omega
        have hKl : K0 ≤ 300000000 := by have h5 := HK0.out; have h7 := HTL.out; omega
        have hKI : (k : Int) + (hh : Int) + (pb.size : Int) = (K0 : Int) := by omega
        have hpb : pb.size ≤ 65536 := by omega
        clear HSE2 HIE hK0 HSE huo hpvp hv hpz
        go_wp2_with (first | (go_at_call 13; refine Calls.mono cn ?_; rintro ee Wa ⟨rfl, rfl⟩) | (go_at_call 51; refine Calls.mono (ch _) ?_; rintro ee Wb ⟨rfl, hbb⟩; have f0 := (hbb.cell (p := ⟨b, off + p * 4, none⟩) (Rp.cell_lt e0)).trans e0; have f1 := (hbb.cell (p := ⟨b, off + p * 4 + 1, none⟩) (Rp.cell_lt e1)).trans e1; have f2 := (hbb.cell (p := ⟨b, off + p * 4 + 2, none⟩) (Rp.cell_lt e2)).trans e2; have f3 := (hbb.cell (p := ⟨b, off + p * 4 + 3, none⟩) (Rp.cell_lt e3)).trans e3))
        have hW2 : IntKind.i64.wrap (K0 : Int) = (K0 : Int) := Go.IntWalk.i64_in _ (by omega)
        have hWr : IntKind.i64.wrap ((k : Int) + (hh : Int) + (pb.size : Int)) = (K0 : Int) := by rw [hKI]; exact Go.IntWalk.i64_in _ (by omega)
        go_region_held3 (fun w' => w'.cell? ⟨b, off + p * 4 + 1, none⟩ = some (.int .i64 v) ∧ w'.cell? ⟨b, off + p * 4 + 3, none⟩ = some (.string s)) (first | (go_keep; done) | exact ⟨by assumption, by assumption⟩) (first | (go_at_call 18; refine Calls.mono (cp _) ?_; rintro ee Wc ⟨rfl, hbc⟩; have j1 : Wc.cell? ⟨b, off + p * 4 + 1, none⟩ = some (.int .i64 v) := (hbc.cell (p := ⟨b, off + p * 4 + 1, none⟩) (Rp.cell_lt f1)).trans f1; have j3 : Wc.cell? ⟨b, off + p * 4 + 3, none⟩ = some (.string s) := (hbc.cell (p := ⟨b, off + p * 4 + 3, none⟩) (Rp.cell_lt f3)).trans f3))
        have HWB : Hid (Below W.heap.size W Wc) := by
          have h9 : Below W.heap.size W Wb := HWr.out.trans (hbb.mono HWr.out.size)
          exact h9.drew.trans (hbc.mono h9.drew.size)
        clear hbb hbc f0 f1 f2 f3 e0 e1 e2 e3 j1 j3
        try rw [hWr]
        go_wp2
        go_loopw [9, 11] (fun x9 x11 wi => ∃ j kk : Nat, x11 = .int .i64 (j : Int) ∧ x9 = .int .i64 (kk : Int) ∧ p + 1 ≤ j ∧ j ≤ nx ∧ kk ≤ 300000000 ∧ Hid (Lev L j nx ∧ kk + (encOf x).sD true (sub L j nx) + (encOf x).sD false (sub L nx e) = T ∧ Below W.heap.size W wi)) (fun _ x11 _ => n - (intOf x11).toNat)
        case atStart => exact ⟨p + 1, K0, by go_num, by first | rfl | rw [hW2] | rw [← hKI], Nat.le_refl _, by omega, by omega, HLN.out.1, HK0.out, HWB.out⟩
        case round =>
          obtain ⟨j, kk, rfl, rfl, hpj, hjn, hkk, HJ⟩ := hrel
          by_cases hjl : j < nx
          · have hjI : (j : Int) < (nx : Int) := by omega
            have hnvj := HV.out.nv.on HJ.out.2.2
            have cj := Wk.nextR_in wr (some ⟨b, off, none⟩) n cap j L hnvj (by omega) (by omega)
            obtain ⟨g1, g2, g3, g4, -⟩ := HJ.out.1.next hjl (by have := HN.out; omega)
            have HSI := (encOf x).sD_item HJ.out.1 hjl (by have := HN.out; omega)
            obtain ⟨af, haf⟩ : ∃ af, nxt L j = af := ⟨_, rfl⟩
            rw [haf] at cj g1 g2 g3 g4 HSI
            obtain ⟨q1, hq1⟩ : ∃ q1, (encOf x).sD false (sub L (j + 1) af) = q1 := ⟨_, rfl⟩
            have cz := fun X (hX : Below W.heap.size W X) => HM.out X (some ⟨b, off, none⟩) n cap L x (j + 1) af (by omega) ⟨HV.out.nv.on hX, HV.out.tg, HV.out.gd, HV.out.n40⟩ (by omega) (by omega) g3
            simp only [hq1] at cz
            rw [hq1] at HSI
            have hq1l : kk + (8 + q1) ≤ 300000000 := by have := HJ.out.2.1; rw [HSI] at this; have := HTL.out; omega
            have HJ2 : Hid (Lev L af nx ∧ (kk + (8 + q1)) + (encOf x).sD true (sub L af nx) + (encOf x).sD false (sub L nx e) = T) := ⟨g4, by have := HJ.out.2.1; rw [HSI] at this; omega⟩
            have HG : Hid (j < af ∧ af ≤ nx) := ⟨g2, g1⟩
            have HWr : Hid (Below W.heap.size W wr) := HJ.out.2.2
            have hja : ((j + 1 : Nat) : Int) = (j : Int) + 1 := by omega
            simp only [hja] at cz
            have hafI : af ≤ 4096 := by omega
            clear g1 g2 g3 g4 HSI haf hq1 HJ hnvj
            go_wp2_with (go_at_call 13; refine StopB.out ?_)
            refine ⟨Calls.mono cj ?_⟩
            rintro ee Wj ⟨rfl, rfl⟩
            go_wp2_with (go_at_call 35; refine StopB.out ?_)
            refine ⟨Calls.mono (cz _ HWr.out) ?_⟩
            rintro ee Wk ⟨rfl, hbk⟩
            go_wp2
            go_roundw
            case rel => exact ⟨af, kk + (8 + q1), rfl, by rw [show ((kk + (8 + q1) : Nat) : Int) = (kk : Int) + (8 + (q1 : Int)) by omega], by have := HG.out; omega, HG.out.2, by omega, HJ2.out.1, HJ2.out.2, HWr.out.trans (hbk.mono HWr.out.size)⟩
            case measure => have := HG.out; simp [intOf]; omega
          · obtain rfl : j = nx := by omega
            have hjI : ¬ (j : Int) < (j : Int) := by omega
            have HF : Hid (kk + (encOf x).sD false (sub L j e) = T) := by have := HJ.out.2.1; rw [sub_nil (Nat.le_refl _)] at this; exact this
            go_wp2
            go_roundw
            case rel => exact ⟨j, kk, rfl, rfl, by omega, by omega, hkk, HLN.out.2, HF.out, HJ.out.2.2⟩
            case measure => simp [intOf]; omega
    · obtain rfl : p = e := by omega
      have hltI : ¬ (p : Int) < (p : Int) := by omega
      have HE : Hid (k = T) := by have := HI.out.2.1; rw [sub_nil (Nat.le_refl _)] at this; exact this
      go_wp2
      go_ret
      exact ⟨by rw [← HE.out]; rfl, HI.out.2.2⟩
theorem rs_any (m : Nat) : RsC m := Nat.strongRecOn m rs_step
end Go.Proofs.YtfoodjhffehgpaaGreatDoor
end
