import Derived.Test.YtoikdpjjcnmgeaaGreatDoorBl
import Derived.WideMake
import Derived.Test.YtoikdpjjcnmgeaaGreatDoorBk
import Derived.Test.YtoikdpjjcnmgeaaGreatDoorBa
import Derived.Test.YtoikdpjjcnmgeaaGreatDoorRM
import Derived.Test.YtoikdpjjcnmgeaaGreatDoorNa
import Derived.Test.YtoikdpjjcnmgeaaGreatDoorBh
import Derived.Deep.RegionLawGrows
section
/-
  DERIVED. The bytes of a data set: the program's.
-/
namespace Go.Proofs.YtoikdpjjcnmgeaaGreatDoor
open Go Go.Proofs Go.RowKit
open Wk (Nd NV goN nxt)

/-- What Encode tells. -/
def EnP (w : World) (s : Int) (L : List Nd) (e : Ending) (w' : World) : Prop := ∃ u ve, e = .returned (.tuple #[u, ve]) ∧ Ob w.heap.size w' u (outB s L) ∧ (outB s L = [] → u = .slice none 0 0) ∧ PErr w' ve (errOf s L) ∧ Below w.heap.size w w'
theorem sz_pos (x : Bool) : ∀ L : List Nd, L ≠ [] → 0 < (encOf x).szP L
  | [], h => absurd rfl h
  | a :: r, _ => by
    have : 8 ≤ (encOf x).hs a := by
      cases x with
      | false => exact Nat.le_refl 8
      | true => show 8 ≤ (if Rp.lo (Rp.vn a.v) = true then 12 else 8); split <;> omega
    show 0 < (encOf x).sz1 a + (encOf x).szP r
    unfold Enc.sz1
    omega
theorem Ob.nil (base : Nat) (w : World) : Ob base w (.slice none 0 0) [] := World.ownsRow_nil _ _ _ _
theorem Ob.low {base b2 : Nat} {w : World} {u : Value} {ys : List UInt8} (h : Ob base w u ys) (hb : b2 ≤ base) : Ob b2 w u ys := Wk.own_base h hb

set_option maxRecDepth 100000 in
set_option maxHeartbeats 2000000 in
/-- Refused. -/
theorem enc_no (w : World) (a : Option Addr) (n cap : Nat) (L : List Nd) (hV : NV w a n cap L) (hT : TagsOk L) (hE : EG w) (s : Int) (he : (errOf s L).isSome = true) : Calls Tryz.prog 20 #[.slice a n cap, .int .i64 s] w (EnP w s L) := by
  have c := size_any w a n cap L hV hT hE s
  have HS : Hid (siz s L = 0 ∧ outB s L = []) := ⟨by unfold siz; rw [if_pos he], by unfold outB; rw [if_pos he]⟩
  have HE : Hid _ := he
  clear hV hT hE he
  go_enter Tryz.func20, Tryz.ntmps20
  go_wp2_with (go_at_call 29; refine StopB.out ?_)
  refine ⟨Calls.mono c ?_⟩
  rintro e W1 ⟨ve, rfl, hp, hb⟩
  rw [HS.out.1]
  obtain ⟨q, rfl⟩ : ∃ q, ve = .iface 70 (.pointer (some ⟨q, 0, none⟩)) := by
    rcases hp with ⟨h, -⟩ | ⟨ls, k, h, hc⟩
    · rw [h] at HE; cases HE.out
    · unfold errOf at h
      split at h
      · cases h; obtain ⟨q, u, h, -⟩ := hc; exact ⟨q, h⟩
      · split at h
        · cases h; obtain ⟨q, u, h, -⟩ := hc; exact ⟨q, h⟩
        · split at h
          · cases h; obtain ⟨q, u, h, -⟩ := hc; exact ⟨q, h⟩
          · cases h
  have HP : Hid _ := hp
  have HB : Hid _ := hb
  clear hp hb c
  go_wp2
  exact bodyPost_ret (v := .tuple #[.slice none 0 0, .iface 70 (.pointer (some ⟨q, 0, none⟩))]) (by simp [results, Tryz.results20, go_sem]) rfl ⟨_, _, rfl, by rw [HS.out.2]; exact Ob.nil _ _, fun _ => rfl, HP.out, HB.out⟩
set_option maxRecDepth 100000 in
set_option maxHeartbeats 2000000 in
theorem enc_I (w : World) (a : Option Addr) (n cap : Nat) (L : List Nd) (hV : NV w a n cap L) (hT : TagsOk L) (hE : EG w) (he : errOf 1 L = none) : Calls Tryz.prog 20 #[.slice a n cap, .int .i64 1] w (EnP w 1 L) := by
  have c := size_any w a n cap L hV hT hE 1
  have hr : (res L).2 = true := by
    rcases hr : (res L).2 with _ | _
    · rw [err_form (by decide) hr] at he; cases he
    · rfl
  have hl : encI.szP L ≤ 1048576 := by
    rcases Nat.lt_or_ge 1048576 (encI.szP L) with h | h
    · rw [err_long (s := 1) (by decide) hr h] at he; cases he
    · exact h
  obtain ⟨k, hk⟩ : ∃ k, encI.szP L = k := ⟨_, rfl⟩
  have HS : Hid (siz 1 L = k ∧ outB 1 L = encI.wP L) := ⟨by unfold siz; rw [he]; exact hk, by unfold outB; rw [he]; rfl⟩
  have HK : Hid (encI.szP L = k) := hk
  rw [hk] at hl
  have HE : Hid (errOf 1 L = none) := he
  have HR : Hid ((res L).2 = true) := hr
  have HV : Hid (NV w a n cap L ∧ TagsOk L) := ⟨hV, hT⟩
  have cx := fun X => syntax_I X
  clear hV hT hE he hk hr
  go_enter Tryz.func20, Tryz.ntmps20
  go_wp2_with (go_at_call 29; refine StopB.out ?_)
  refine ⟨Calls.mono c ?_⟩
  rintro e W1 ⟨ve, rfl, hp, hb⟩
  rw [HS.out.1]
  obtain rfl : ve = .nilIface := by
    rcases hp with ⟨-, h⟩ | ⟨ls, q, h, -⟩
    · exact h
    · rw [HE.out] at h; cases h
  have HB : Hid _ := hb
  clear hp hb c
  by_cases hL : L = []
  · have HO : Hid (k = 0 ∧ outB 1 L = []) := by
      refine ⟨?_, ?_⟩
      · rw [← HK.out, hL]; rfl
      · rw [HS.out.2, hL]; rfl
    obtain rfl := HO.out.1
    clear hL
    go_wp2
    exact bodyPost_ret (v := .tuple #[.slice none 0 0, .nilIface]) (by simp [results, Tryz.results20, go_sem]) rfl ⟨_, _, rfl, by rw [HO.out.2]; exact Ob.nil _ _, fun _ => rfl, .inl ⟨HE.out, rfl⟩, HB.out⟩
  · have hk0 : 0 < k := by rw [← HK.out]; exact sz_pos false L hL
    have hk0I : ¬ (k : Int) = 0 := by omega
    have hk0b : ((k : Int) == 0) = false := beq_eq_false_iff_ne.2 (by omega)
    have hn0 : 0 < n := by
      have := HV.out.1.len
      rcases Nat.eq_zero_or_pos n with h | h
      · exact absurd (List.length_eq_zero_iff.1 (by omega)) hL
      · exact h
    obtain ⟨b, off, rfl, hat⟩ := HV.out.1.lies hn0
    have hbl : b < w.heap.size := Wk.cell_lt (hat 0 (by have := HV.out.1.len; omega)).1
    have HBL : Hid (b < W1.heap.size) := Nat.lt_of_lt_of_le hbl HB.out.size
    obtain ⟨i0, hi, hz0, hz1, hz2⟩ := info_parts info8
    have HZ : Hid (i0.bytes = 1) := hz2
    clear hat hbl hL
    go_wp2_with (first | (go_at_call 30; refine Calls.mono (cx _) ?_; rintro e W2 ⟨rfl, rfl⟩) | (at_make; refine wpList_make_own _ rfl _ _ 22 rfl W1.heap.size 5 i0 _ 1 Tryz.underlying22 hi hz0 hz1 .i64 .i64 _ k rfl rfl ?_ ?_ ?_ ?_ ?_) | fail)
    · rfl
    · rw [HZ.out]; omega
    · unfold maxLen; omega
    · exact Nat.le_refl _
    · intro W3 hown hgr
      have hb3 : Below W1.heap.size W1 W3 := (Below.refl _ _).grown hgr (Nat.le_refl _) (by simp)
      have HB3 : Hid _ := hb3
      have cw := wrI_any L.length W3 W1.heap.size b off n cap L (.slice (some ⟨W1.heap.size, 0, none⟩) 0 k) [] (Nat.le_refl _) ⟨(HV.out.1.on HB.out).on hb3, HBL.out, HV.out.2, res_good HR.out, by rw [HV.out.1.len]; exact (res_ok HR.out).1, by rw [HK.out]; simp; omega, hown, hb3.size⟩
      clear hgr hown hb3
      go_wp2_with (go_at_call 41; refine StopB.out ?_)
      refine ⟨Calls.mono cw ?_⟩
      rintro e W4 ⟨u, rfl, ho, hby⟩
      have hne : encI.wP L ≠ [] := by
        intro h
        have h2 : (encI.wP L).length = encI.szP L := wr_len false _ L (Nat.le_refl _) (res_good HR.out)
        rw [h, HK.out] at h2
        simp at h2
        omega
      have hB4 : Below W1.heap.size W1 W4 := HB3.out.trans hby.out.b
      have HF : Hid (Ob w.heap.size W4 u (outB 1 L) ∧ (outB 1 L = [] → u = .slice none 0 0) ∧ PErr W4 .nilIface (errOf 1 L) ∧ Below w.heap.size w W4) := ⟨by rw [HS.out.2]; exact ho.out.low HB.out.size, fun h => by rw [HS.out.2] at h; exact absurd h hne, .inl ⟨HE.out, rfl⟩, HB.out.trans (hB4.mono HB.out.size)⟩
      obtain ⟨ua, un, uc, rfl⟩ : ∃ ua un uc, u = .slice ua un uc := by
        rcases ho.out.2 with ⟨h, -⟩ | ⟨g, cp, cur, h, -⟩
        · exact ⟨_, _, _, h⟩
        · exact ⟨_, _, _, h⟩
      clear ho hby hne hB4 cw
      go_wp2
      exact bodyPost_ret (v := .tuple #[.slice ua un uc, .nilIface]) (by simp [results, Tryz.results20, go_sem]) rfl ⟨_, _, rfl, HF.out⟩
set_option maxRecDepth 100000 in
set_option maxHeartbeats 2000000 in
theorem enc_E (w : World) (a : Option Addr) (n cap : Nat) (L : List Nd) (hV : NV w a n cap L) (hT : TagsOk L) (hE : EG w) (he : errOf 2 L = none) : Calls Tryz.prog 20 #[.slice a n cap, .int .i64 2] w (EnP w 2 L) := by
  have c := size_any w a n cap L hV hT hE 2
  have hr : (res L).2 = true := by
    rcases hr : (res L).2 with _ | _
    · rw [err_form (by decide) hr] at he; cases he
    · rfl
  have hl : encE.szP L ≤ 1048576 := by
    rcases Nat.lt_or_ge 1048576 (encE.szP L) with h | h
    · rw [err_long (s := 2) (by decide) hr h] at he; cases he
    · exact h
  obtain ⟨k, hk⟩ : ∃ k, encE.szP L = k := ⟨_, rfl⟩
  have HS : Hid (siz 2 L = k ∧ outB 2 L = encE.wP L) := ⟨by unfold siz; rw [he]; exact hk, by unfold outB; rw [he]; rfl⟩
  have HK : Hid (encE.szP L = k) := hk
  rw [hk] at hl
  have HE : Hid (errOf 2 L = none) := he
  have HR : Hid ((res L).2 = true) := hr
  have HV : Hid (NV w a n cap L ∧ TagsOk L) := ⟨hV, hT⟩
  have cx := fun X => syntax_E X
  clear hV hT hE he hk hr
  go_enter Tryz.func20, Tryz.ntmps20
  go_wp2_with (go_at_call 29; refine StopB.out ?_)
  refine ⟨Calls.mono c ?_⟩
  rintro e W1 ⟨ve, rfl, hp, hb⟩
  rw [HS.out.1]
  obtain rfl : ve = .nilIface := by
    rcases hp with ⟨-, h⟩ | ⟨ls, q, h, -⟩
    · exact h
    · rw [HE.out] at h; cases h
  have HB : Hid _ := hb
  clear hp hb c
  by_cases hL : L = []
  · have HO : Hid (k = 0 ∧ outB 2 L = []) := by
      refine ⟨?_, ?_⟩
      · rw [← HK.out, hL]; rfl
      · rw [HS.out.2, hL]; rfl
    obtain rfl := HO.out.1
    clear hL
    go_wp2
    exact bodyPost_ret (v := .tuple #[.slice none 0 0, .nilIface]) (by simp [results, Tryz.results20, go_sem]) rfl ⟨_, _, rfl, by rw [HO.out.2]; exact Ob.nil _ _, fun _ => rfl, .inl ⟨HE.out, rfl⟩, HB.out⟩
  · have hk0 : 0 < k := by rw [← HK.out]; exact sz_pos true L hL
    have hk0I : ¬ (k : Int) = 0 := by omega
    have hk0b : ((k : Int) == 0) = false := beq_eq_false_iff_ne.2 (by omega)
    have hn0 : 0 < n := by
      have := HV.out.1.len
      rcases Nat.eq_zero_or_pos n with h | h
      · exact absurd (List.length_eq_zero_iff.1 (by omega)) hL
      · exact h
    obtain ⟨b, off, rfl, hat⟩ := HV.out.1.lies hn0
    have hbl : b < w.heap.size := Wk.cell_lt (hat 0 (by have := HV.out.1.len; omega)).1
    have HBL : Hid (b < W1.heap.size) := Nat.lt_of_lt_of_le hbl HB.out.size
    obtain ⟨i0, hi, hz0, hz1, hz2⟩ := info_parts info8
    have HZ : Hid (i0.bytes = 1) := hz2
    clear hat hbl hL
    go_wp2_with (first | (go_at_call 30; refine Calls.mono (cx _) ?_; rintro e W2 ⟨rfl, rfl⟩) | (at_make; refine wpList_make_own _ rfl _ _ 22 rfl W1.heap.size 5 i0 _ 1 Tryz.underlying22 hi hz0 hz1 .i64 .i64 _ k rfl rfl ?_ ?_ ?_ ?_ ?_) | fail)
    · rfl
    · rw [HZ.out]; omega
    · unfold maxLen; omega
    · exact Nat.le_refl _
    · intro W3 hown hgr
      have hb3 : Below W1.heap.size W1 W3 := (Below.refl _ _).grown hgr (Nat.le_refl _) (by simp)
      have HB3 : Hid _ := hb3
      have cw := wrE_any L.length W3 W1.heap.size b off n cap L (.slice (some ⟨W1.heap.size, 0, none⟩) 0 k) [] (Nat.le_refl _) ⟨(HV.out.1.on HB.out).on hb3, HBL.out, HV.out.2, res_good HR.out, by rw [HV.out.1.len]; exact (res_ok HR.out).1, by rw [HK.out]; simp; omega, hown, hb3.size⟩
      clear hgr hown hb3
      go_wp2_with (go_at_call 41; refine StopB.out ?_)
      refine ⟨Calls.mono cw ?_⟩
      rintro e W4 ⟨u, rfl, ho, hby⟩
      have hne : encE.wP L ≠ [] := by
        intro h
        have h2 : (encE.wP L).length = encE.szP L := wr_len true _ L (Nat.le_refl _) (res_good HR.out)
        rw [h, HK.out] at h2
        simp at h2
        omega
      have hB4 : Below W1.heap.size W1 W4 := HB3.out.trans hby.out.b
      have HF : Hid (Ob w.heap.size W4 u (outB 2 L) ∧ (outB 2 L = [] → u = .slice none 0 0) ∧ PErr W4 .nilIface (errOf 2 L) ∧ Below w.heap.size w W4) := ⟨by rw [HS.out.2]; exact ho.out.low HB.out.size, fun h => by rw [HS.out.2] at h; exact absurd h hne, .inl ⟨HE.out, rfl⟩, HB.out.trans (hB4.mono HB.out.size)⟩
      obtain ⟨ua, un, uc, rfl⟩ : ∃ ua un uc, u = .slice ua un uc := by
        rcases ho.out.2 with ⟨h, -⟩ | ⟨g, cp, cur, h, -⟩
        · exact ⟨_, _, _, h⟩
        · exact ⟨_, _, _, h⟩
      clear ho hby hne hB4 cw
      go_wp2
      exact bodyPost_ret (v := .tuple #[.slice ua un uc, .nilIface]) (by simp [results, Tryz.results20, go_sem]) rfl ⟨_, _, rfl, HF.out⟩
theorem encode_any (w : World) (a : Option Addr) (n cap : Nat) (L : List Nd) (hV : NV w a n cap L) (hT : TagsOk L) (hE : EG w) (s : Int) : Calls Tryz.prog 20 #[.slice a n cap, .int .i64 s] w (EnP w s L) := by
  rcases he : errOf s L with _ | x
  · by_cases h1 : s = 1
    · subst h1; exact enc_I w a n cap L hV hT hE he
    · by_cases h2 : s = 2
      · subst h2; exact enc_E w a n cap L hV hT hE he
      · rw [err_bad ⟨h1, h2⟩] at he; cases he
  · exact enc_no w a n cap L hV hT hE s (by rw [he]; rfl)
end Go.Proofs.YtoikdpjjcnmgeaaGreatDoor
end

section
/-
  DERIVED. Decode, whole: the program's.
-/
namespace Go.Proofs.YtoikdpjjcnmgeaaGreatDoor
open Go Go.Proofs Go.RowKit
open Wk (Nd nds)
open Go.Sort

theorem own_off {W : World} {base p i : Nat} {u : Value} {e : TypeId} {z : Nat} {v : Value} {n : Nat} {xs : List Value} (h : W.ownsRow base e z v n xs) (hp : p < base) : (W.setCell ⟨p, i, none⟩ u).ownsRow base e z v n xs :=
  ⟨h.1, h.2.imp id (fun ⟨g, cap, cur, h1, h2, h3, h4⟩ => ⟨g, cap, cur, h1, h2, (heap_setCell_other W ⟨p, i, none⟩ g u (fun e => by have e : g = p := e; omega)).trans h3, h4⟩)⟩

set_option maxRecDepth 100000 in
set_option maxHeartbeats 4000000 in
theorem dec_main (w : World) (a : Option Addr) (n cap : Nat) (ys : List UInt8) (x : Bool) (hV : BV w.heap.size w a n cap ys) : Calls Tryz.prog 10 #[.slice a n cap, .int .i64 (if x = true then 2 else 1)] w (DcP w (if x = true then 2 else 1) ys) := by
  have hmf : ∀ (fn : Fn) (first cap : Array Value) (w : World), (Instr.makeFunc fn first cap).run Tryz.prog w = .ok (.func fn first cap) w := fun _ _ _ _ => rfl
  have cS := syn_ok ((w.alloc (.cells #[.slice none 0 0] 25)).alloc (.cells #[.nilIface] 27)) x
  have HN : Hid (ys.length ≤ 1048576 ∧ n = ys.length) := ⟨by rw [← hV.l]; exact hV.s, hV.l⟩
  have b1 : decide ((1048576 : Int) < (n : Int)) = false := decide_eq_false (by have := hV.s; omega)
  have b2 : decide (1048576 < n) = false := decide_eq_false (by have := hV.s; omega)
  obtain ⟨s, hs⟩ : ∃ s : Int, (if x = true then 2 else 1) = s := ⟨_, rfl⟩
  have HS : Hid ((s = 1 ∨ s = 2) ∧ decide (s = 2) = x) := by
    cases x
    · obtain rfl : (1 : Int) = s := hs
      exact ⟨.inl rfl, by decide⟩
    · obtain rfl : (2 : Int) = s := hs
      exact ⟨.inr rfl, by decide⟩
  rw [hs] at cS ⊢
  obtain ⟨X, hX⟩ : ∃ X, ((w.alloc (.cells #[.slice none 0 0] 25)).alloc (.cells #[.nilIface] 27)).setCell ⟨w.heap.size + 1, 0, none⟩ .nilIface = X := ⟨_, rfl⟩
  have HBX : Hid (Below w.heap.size w X) := by rw [← hX]; exact (((Below.refl _ w).alloc (Nat.le_refl _) _).alloc (by simp) _).setCell (p := ⟨w.heap.size + 1, 0, none⟩) (Nat.le_succ _) _
  have x4 : X.cell? ⟨w.heap.size, 0, none⟩ = some (.slice none 0 0) := by rw [← hX]; exact (Rp.cell_set_off (by omega)).trans (by simp)
  have x5 : X.cell? ⟨w.heap.size + 1, 0, none⟩ = some .nilIface := by rw [← hX]; exact Rp.cell_set_eq (u := .nilIface) (by simp)
  have y4 : X.frozen? ⟨w.heap.size, 0, none⟩ = false := by rw [← hX]; simp
  have y5 : X.frozen? ⟨w.heap.size + 1, 0, none⟩ = false := by rw [← hX]; simp
  have cN := newReader_any X a n cap x
  rw [exV_eq] at cN
  have HVX : Hid (∀ W, Below X.heap.size X W → BV X.heap.size W a n cap ys) := fun W hW => hV.up (HBX.out.trans (hW.mono HBX.out.size)) HBX.out.size
  have n1 : w.heap.size ≠ w.heap.size + 1 := by omega
  have n2 : w.heap.size + 1 ≠ w.heap.size := by omega
  clear hs hV
  go_enter_defers Tryz.func10, Tryz.ntmps10
  go_wp2_with (go_at_call 30; refine StopV.out ?_)
  refine ⟨Calls.mono cS ?_⟩
  rintro e W1 ⟨rfl, rfl⟩
  clear cS
  go_wp2_with (go_at_call 33; refine StopV.out ?_)
  refine ⟨Calls.mono cN ?_⟩
  rintro e W1 ⟨rfl, hp1, hb1⟩
  have cR := read_any W1 X.heap.size (X.heap.size + 1) a n cap ys x _ _ hp1.out (HVX.out W1 hb1.out)
  clear cN
  go_wp2_with (go_at_call 34; refine StopV.out ?_)
  refine ⟨Calls.mono cR ?_⟩
  rintro e W2 ⟨he, hb2⟩
  have hb12 : Below X.heap.size X W2 := hb1.out.trans hb2
  have HB12 : Hid _ := hb12
  have c4 := (hb12.cell (Rp.cell_lt x4)).trans x4
  have c5 := (hb12.cell (Rp.cell_lt x5)).trans x5
  have z4 : W2.frozen? ⟨w.heap.size, 0, none⟩ = false := (hb12.frozen (p := ⟨w.heap.size, 0, none⟩) (Rp.cell_lt x4)).trans y4
  have z5 : W2.frozen? ⟨w.heap.size + 1, 0, none⟩ = false := (hb12.frozen (p := ⟨w.heap.size + 1, 0, none⟩) (Rp.cell_lt x5)).trans y5
  have c51 : ∀ v, (W2.setCell ⟨w.heap.size, 0, none⟩ v).cell? ⟨w.heap.size + 1, 0, none⟩ = some .nilIface := fun v => (Rp.cell_set_off n1).trans c5
  clear cR hb1 hb2 hp1
  rcases he with ⟨a', c', ⟨q, rfl, hc⟩, hE⟩ | ⟨nv, M, rfl, hr, hE, hM⟩
  · obtain ⟨W9, hW9⟩ : ∃ W9, (W2.setCell ⟨w.heap.size, 0, none⟩ (.slice none 0 0)).setCell ⟨w.heap.size + 1, 0, none⟩ (.iface 70 (.pointer (some ⟨q, 0, none⟩))) = W9 := ⟨_, rfl⟩
    have HCH : Hid (Chain W9 [(dsB, (a' : Int))] (c' : Int) (.iface 70 (.pointer (some ⟨q, 0, none⟩)))) := by
      rw [← hW9]
      exact chain_set (u := .nilIface) (chain_set (u := .slice none 0 0) hc c4 (fun _ h => nomatch h)) (c51 _) (fun _ h => nomatch h)
    have HBL : Hid (Below w.heap.size w W9) := by
      rw [← hW9]
      exact ((HBX.out.trans (HB12.out.mono HBX.out.size)).setCell (p := ⟨w.heap.size, 0, none⟩) (Nat.le_refl _) _).setCell (p := ⟨w.heap.size + 1, 0, none⟩) (Nat.le_succ _) _
    have u4 : W9.cell? ⟨w.heap.size, 0, none⟩ = some (.slice none 0 0) := by rw [← hW9]; exact (Rp.cell_set_off n2).trans (Rp.cell_set_eq c4)
    have u5 : W9.cell? ⟨w.heap.size + 1, 0, none⟩ = some (.iface 70 (.pointer (some ⟨q, 0, none⟩))) := by rw [← hW9]; exact Rp.cell_set_eq (c51 _)
    refine leaves_cons (f := 32) (args := #[.pointer (some ⟨w.heap.size, 0, none⟩), .pointer (some ⟨w.heap.size + 1, 0, none⟩)]) (by simp) (by simp [go_sem]) ?_
    refine (catch_panicking w.heap.size (w.heap.size + 1) q [] W2 _ _ c4 z4 c5 z5 n1).mono ?_
    rintro e u' w'' ⟨rfl, rfl, rfl⟩
    rw [hW9]
    simp [Leaves, settle, results, Tryz.results10, go_sem, u4, u5]
    exact ⟨_, _, rfl, .inl ⟨a', c', .inr (.inr ⟨HS.out.1, HN.out.1, by rw [HS.out.2, ← HN.out.2]; exact hE⟩), rfl, HCH.out⟩, HBL⟩
  · obtain ⟨W9, hW9⟩ : ∃ W9, (W2.setCell ⟨w.heap.size, 0, none⟩ nv).setCell ⟨w.heap.size + 1, 0, none⟩ .nilIface = W9 := ⟨_, rfl⟩
    have HBL : Hid (Below w.heap.size w W9) := by
      rw [← hW9]
      exact ((HBX.out.trans (HB12.out.mono HBX.out.size)).setCell (p := ⟨w.heap.size, 0, none⟩) (Nat.le_refl _) _).setCell (p := ⟨w.heap.size + 1, 0, none⟩) (Nat.le_succ _) _
    have u4 : W9.cell? ⟨w.heap.size, 0, none⟩ = some nv := by rw [← hW9]; exact (Rp.cell_set_off n2).trans (Rp.cell_set_eq c4)
    have u5 : W9.cell? ⟨w.heap.size + 1, 0, none⟩ = some .nilIface := by rw [← hW9]; exact Rp.cell_set_eq (c51 _)
    have HRW : Hid (W9.ownsRow w.heap.size 54 4 nv M.length (nds M)) := by
      rw [← hW9]
      exact own_low (own_off (own_off hr (Rp.cell_lt x4)) (Rp.cell_lt x5)) HBX.out.size
    obtain ⟨na, ncap, rfl, -⟩ := own_form hr
    have HE : Hid _ := hE
    have HMO : Hid _ := hM
    clear hr hE hM
    obtain ⟨L, hL⟩ : ∃ L, M.length = L := ⟨_, rfl⟩
    have HL : Hid _ := hL
    rw [hL] at hW9 u4 HRW
    rw [hL]
    clear hL
    go_wp2
    refine leaves_cons (f := 32) (args := #[.pointer (some ⟨w.heap.size, 0, none⟩), .pointer (some ⟨w.heap.size + 1, 0, none⟩)]) (by simp) (by simp [go_sem]) ?_
    refine (catch_idle w.heap.size (w.heap.size + 1) _).mono ?_
    rintro e u' w'' ⟨rfl, rfl, rfl⟩
    simp [Leaves, settle, results, Tryz.results10, go_sem, u4, u5]
    exact ⟨_, _, rfl, .inr ⟨M, ⟨HS.out.1, HN.out.1, by rw [HS.out.2, ← HN.out.2]; exact HE.out⟩, rfl, by rw [HL.out]; exact HRW.out, HMO.out.1, by rw [← HL.out]; exact HMO.out.2⟩, HBL⟩
/-- Bytes that come in, of whatever length. -/
structure BA (base : Nat) (W : World) (a : Option Addr) (n cap : Nat) (ys : List UInt8) : Prop where
  l : n = ys.length
  c : n ≤ cap
  s : n ≤ 9223372036854775807
  m : ∀ k, k < n → ∃ b off, a = some ⟨b, off, none⟩ ∧ b < base ∧ W.cell? ⟨b, off + k, none⟩ = some (.int .u8 (gB ys k : Int))
theorem decode_any (w : World) (a : Option Addr) (n cap : Nat) (ys : List UInt8) (s : Int) (hV : BA w.heap.size w a n cap ys) : Calls Tryz.prog 10 #[.slice a n cap, .int .i64 s] w (DcP w s ys) := by
  by_cases h : s ≠ 1 ∧ s ≠ 2
  · exact dec_no w a n cap ys s h
  · obtain ⟨x, rfl⟩ : ∃ x : Bool, (if x = true then 2 else 1) = s := by
      by_cases h2 : s = 2
      · exact ⟨true, h2.symm⟩
      · refine ⟨false, ?_⟩
        show (1 : Int) = s
        omega
    by_cases hl : 1048576 < n
    · exact dec_long w a n cap ys x hV.l hl hV.s
    · exact dec_main w a n cap ys x ⟨hV.l, hV.c, by omega, hV.m⟩
end Go.Proofs.YtoikdpjjcnmgeaaGreatDoor
end

section
/-
  DERIVED. There and back: the program's Encode and Decode where nothing is refused; the small data set that the laws ask first.
-/
namespace Go.Proofs.YtoikdpjjcnmgeaaGreatDoor
open Go Go.Proofs Go.RowKit
open Wk (Nd NV nds)
open Go.Sort

structure StopQ (p : Prop) : Prop where
  out : p
theorem ob_ba {base : Nat} {w : World} {u : Value} {ys : List UInt8} (h : Ob base w u ys) (hl : ys.length ≤ 1048576) : ∃ a c, u = .slice a ys.length c ∧ BA w.heap.size w a ys.length c ys := by
  have h0 : w.ownsRow base 5 1 u ys.length (bvs ys) := h
  rcases h0.2 with ⟨hv, he⟩ | ⟨g, c, cur, hv, -⟩
  · have e0 : ys.length = 0 := by
      subst hv
      have := he
      first | exact this | (have := congrArg List.length this; rw [bvs_len] at this; simpa using this) | omega | simp_all
    exact ⟨none, 0, by rw [hv, e0], rfl, by omega, by omega, fun k hk => by omega⟩
  · subst hv
    refine ⟨_, c, rfl, rfl, Wk.own_cap h0, by omega, fun k hk => ⟨g, 0, rfl, (World.ownsRow.lt h0 g rfl).2, ?_⟩⟩
    rw [Nat.zero_add]
    refine (World.ownsRow.cellAt h0 k (by omega)).trans ?_
    unfold bvs
    rw [List.getElem?_map, List.getElem?_eq_getElem hk]
    unfold gB
    rw [List.getD_eq_getElem?_getD, List.getElem?_eq_getElem hk]
    rfl
theorem mok_nums {M : List Nd} (h : MOk M) : ∀ x ∈ M, -9223372036854775808 ≤ x.n ∧ x.n ≤ 9223372036854775807 := fun x hx => by
  have h1 := (h.a x hx).n0
  have h2 := (h.a x hx).n1
  have h3 := h.l
  omega
theorem own_nvq {w : World} {b m : Nat} {u : Value} {M : List Nd} (h : w.ownsRow b 54 4 u m (nds M)) (hm : m = M.length) (hM : MOk M) : ∃ a c, u = .slice a m c ∧ NV w a m c M := by
  rcases h.2 with ⟨hv, he⟩ | ⟨g, c, cur, hv, -⟩
  · have e0 : m = 0 := by
      first | exact he.1 | omega | simp_all
    exact ⟨none, 0, by rw [hv, e0], hm, by omega, by omega, fun h => absurd h (by omega), mok_nums hM⟩
  · subst hv
    refine ⟨_, c, rfl, hm, Wk.own_cap h, by have := hM.l; omega, fun _ => ⟨g, 0, rfl, fun i hi => ?_⟩, mok_nums hM⟩
    have hg : ∀ k, k < 4 → w.cell? ⟨g, 0 + i * 4 + k, none⟩ = ((M[i]'hi).cs)[k]? := fun k hk => by
      rw [Nat.zero_add]
      refine (World.ownsRow.cellAt h (i * 4 + k) (by omega)).trans ?_
      exact Wk.nds_get M i hi k hk
    exact ⟨hg 0 (by decide), hg 1 (by decide), hg 2 (by decide), hg 3 (by decide)⟩
/-- Encode where nothing is refused. -/
theorem enc_ok (w : World) (a : Option Addr) (n cap : Nat) (L : List Nd) (hV : NV w a n cap L) (hT : TagsOk L) (hE : EG w) (s : Int) (h : errOf s L = none) : Calls Tryz.prog 20 #[.slice a n cap, .int .i64 s] w fun e w' => ∃ b c, e = .returned (.tuple #[.slice b (outB s L).length c, .nilIface]) ∧ Hid (BA w'.heap.size w' b (outB s L).length c (outB s L)) ∧ Hid (Below w.heap.size w w') := by
  refine (encode_any w a n cap L hV hT hE s).mono ?_
  rintro e w' ⟨u, ve, rfl, ho, -, hp, hb⟩
  obtain ⟨h1, h2, h3, h4⟩ := err_ok h
  have hl : (outB s L).length ≤ 1048576 := (back_ok h hT).2.1
  obtain ⟨b, c, rfl, hB⟩ := ob_ba ho hl
  rcases hp with ⟨-, rfl⟩ | ⟨ls, k, e, -⟩
  · exact ⟨b, c, rfl, hB, hb⟩
  · rw [h] at e; cases e
/-- Decode where nothing is refused. -/
theorem dec_ok (w : World) (a : Option Addr) (n cap : Nat) (ys : List UInt8) (s : Int) (M : List Nd) (hV : BA w.heap.size w a n cap ys) (h : OkD s ys M) : Calls Tryz.prog 10 #[.slice a n cap, .int .i64 s] w fun e w' => ∃ b c, e = .returned (.tuple #[.slice b M.length c, .nilIface]) ∧ Hid (NV w' b M.length c M) ∧ Hid (Below w.heap.size w w') := by
  refine (decode_any w a n cap ys s hV).mono ?_
  rintro e w' ⟨nv, ve, rfl, hr, hb⟩
  obtain ⟨g1, g2, g3⟩ := h
  rcases hr.out with ⟨x, c, he, -⟩ | ⟨M', ho, rfl, hw, hm, -⟩
  · exfalso
    rcases he with ⟨h1, h2, _⟩ | ⟨_, h2, _⟩ | ⟨_, _, h3⟩
    · rcases g1 with g | g <;> contradiction
    · omega
    · have := h3.one g3
      cases this
  · have e := ho.2.2.one g3
    cases e
    obtain ⟨b, c, rfl, hN⟩ := own_nvq hw rfl hm
    exact ⟨b, c, rfl, hN, hb⟩

/-- The small data set. -/
def alN : List Nd := [⟨524384, 4, 0, ⟨#[67, 84, 49]⟩⟩, ⟨4194560, 18, 1, ⟨#[]⟩⟩, ⟨4294893568, 29, 1, ⟨#[]⟩⟩, ⟨4194313, 16, 0, ⟨#[55]⟩⟩]
theorem al_res : (res alN).2 = true := by decide +kernel
theorem al_sz : (encOf false).szP alN = 38 ∧ (encOf true).szP alN = 42 := by decide +kernel
theorem al_err1 : errOf 1 alN = none := err_none (by decide) al_res (by show ¬ 1048576 < (encOf false).szP alN; rw [al_sz.1]; decide)
theorem al_err2 : errOf 2 alN = none := err_none (by decide) al_res (by show ¬ 1048576 < (encOf true).szP alN; rw [al_sz.2]; decide)
theorem al_tags : TagsOk alN := by
  intro x hx
  simp only [alN, List.mem_cons, List.not_mem_nil, or_false] at hx
  rcases hx with rfl | rfl | rfl | rfl <;> exact ⟨by decide, by decide⟩
theorem al_bk (x : Bool) : alN.map (bkN x) = alN := by
  cases x
  · kernel_rfl
  · exact List.map_id _
theorem out_len {s : Int} {L : List Nd} (h : errOf s L = none) : (outB s L).length = (encS s).szP L := by
  obtain ⟨h1, h2, h3, h4⟩ := err_ok h
  rw [h4]
  exact wr_len _ _ _ (Nat.le_refl _) (res_good h2)
theorem al_l1 : (outB 1 alN).length = 38 := (out_len al_err1).trans al_sz.1
theorem al_l2 : (outB 2 alN).length = 42 := (out_len al_err2).trans al_sz.2

theorem al_nv {w : World} {g : Nat} {cs : Array Value} (h : w.heap[g]? = some (.cells cs 54)) (hc : cs = #[.int .u32 524384, .int .i64 4, .int .i64 0, .string ⟨#[67, 84, 49]⟩, .int .u32 4194560, .int .i64 18, .int .i64 1, .string ⟨#[]⟩, .int .u32 4294893568, .int .i64 29, .int .i64 1, .string ⟨#[]⟩, .int .u32 4194313, .int .i64 16, .int .i64 0, .string ⟨#[55]⟩]) : NV w (some ⟨g, 0, none⟩) 4 4 alN := by
  subst hc
  refine ⟨rfl, Nat.le_refl _, by decide, fun _ => ⟨g, 0, rfl, fun i hi => ?_⟩, fun x hx => ?_⟩
  · have hi : i < 4 := hi
    have hc : ∀ j v, #[Value.int .u32 524384, .int .i64 4, .int .i64 0, .string ⟨#[67, 84, 49]⟩, .int .u32 4194560, .int .i64 18, .int .i64 1, .string ⟨#[]⟩, .int .u32 4294893568, .int .i64 29, .int .i64 1, .string ⟨#[]⟩, .int .u32 4194313, .int .i64 16, .int .i64 0, .string ⟨#[55]⟩][j]? = some v → w.cell? ⟨g, j, none⟩ = some v := fun j v e => Tb.cell_blk h e
    match i, hi with
    | 0, _ => exact ⟨hc 0 _ rfl, hc 1 _ rfl, hc 2 _ rfl, hc 3 _ rfl⟩
    | 1, _ => exact ⟨hc 4 _ rfl, hc 5 _ rfl, hc 6 _ rfl, hc 7 _ rfl⟩
    | 2, _ => exact ⟨hc 8 _ rfl, hc 9 _ rfl, hc 10 _ rfl, hc 11 _ rfl⟩
    | 3, _ => exact ⟨hc 12 _ rfl, hc 13 _ rfl, hc 14 _ rfl, hc 15 _ rfl⟩
  · simp only [alN, List.mem_cons, List.not_mem_nil, or_false] at hx
    rcases hx with rfl | rfl | rfl | rfl <;> exact ⟨by decide, by decide⟩
theorem EG.keep {w w' : World} (h : EG w) (hb : Below w.heap.size w w') : EG w' := (hb.cell (Rp.cell_lt h)).trans h
/-- There and back, for the small data set. -/
theorem al_ok (s : Int) (h : s = 1 ∨ s = 2) : errOf s alN = none ∧ OkD s (outB s alN) alN ∧ 38 ≤ (outB s alN).length := by
  rcases h with rfl | rfl
  · exact ⟨al_err1, by have := back_ok al_err1 al_tags; rw [al_bk] at this; exact this, by rw [al_l1]; decide⟩
  · exact ⟨al_err2, by have := back_ok al_err2 al_tags; rw [al_bk] at this; exact this, by rw [al_l2]; decide⟩

set_option maxRecDepth 100000 in
set_option maxHeartbeats 4000000 in
theorem alive_any (w : World) (hE : EG w) : Calls Tryz.prog 18 #[] w fun e w' => e = .returned (.bool true) ∧ Below w.heap.size w w' := by
  obtain ⟨W0, hW0⟩ : ∃ W0, w.alloc (.cells #[.int .u32 524384, .int .i64 4, .int .i64 0, .string ⟨#[67, 84, 49]⟩, .int .u32 4194560, .int .i64 18, .int .i64 1, .string ⟨#[]⟩, .int .u32 4294893568, .int .i64 29, .int .i64 1, .string ⟨#[]⟩, .int .u32 4194313, .int .i64 16, .int .i64 0, .string ⟨#[55]⟩] 54) = W0 := ⟨_, rfl⟩
  have hb0 : Below w.heap.size w W0 := by rw [← hW0]; exact (Below.refl _ _).alloc (Nat.le_refl _) _
  have HN : Hid (NV W0 (some ⟨w.heap.size, 0, none⟩) 4 4 alN) := by
    refine al_nv (cs := _) ?_ rfl
    rw [← hW0]
    exact Array.getElem?_push_size
  have HE0 : Hid (EG W0) := hE.keep hb0
  have HB0 : Hid (Below w.heap.size w W0) := hb0
  have q1 := al_ok 1 (.inl rfl)
  have q2 := al_ok 2 (.inr rfl)
  have b1 : ¬ (((outB 1 alN).length : Nat) : Int) < 38 := by omega
  have b2 : ¬ (((outB 2 alN).length : Nat) : Int) < 38 := by omega
  have Q1 : Hid (errOf 1 alN = none ∧ OkD 1 (outB 1 alN) alN) := ⟨q1.1, q1.2.1⟩
  have Q2 : Hid (errOf 2 alN = none ∧ OkD 2 (outB 2 alN) alN) := ⟨q2.1, q2.2.1⟩
  clear hE hb0 q1 q2
  go_enter Tryz.func18, Tryz.ntmps18
  go_wp2
  refine wp_loop_rounds 3 ?_
  rw [rounds_succ]
  go_wp2_with (go_at_call 20; refine StopQ.out ?_)
  refine ⟨Calls.mono (enc_ok W0 _ 4 4 alN HN.out al_tags HE0.out 1 Q1.out.1) ?_⟩
  rintro e W1 ⟨a1, c1, rfl, hB1, hb1⟩
  have HN1 : Hid (NV W1 (some ⟨w.heap.size, 0, none⟩) 4 4 alN) := HN.out.on hb1.out
  go_wp2_with (go_at_call 10; refine StopQ.out ?_)
  refine ⟨Calls.mono (dec_ok W1 a1 _ c1 (outB 1 alN) 1 alN hB1.out Q1.out.2) ?_⟩
  rintro e W2 ⟨a2, c2, rfl, hN2, hb2⟩
  have HN2 : Hid (NV W2 (some ⟨w.heap.size, 0, none⟩) 4 4 alN) := HN1.out.on hb2.out
  go_wp2_with (go_at_call 13; refine StopQ.out ?_)
  refine ⟨Calls.mono (Wk.nodes_same W2 a2 _ 4 c2 4 alN hN2.out HN2.out) ?_⟩
  rintro e W3 ⟨rfl, m3, rfl⟩
  have hb3 := Wk.below_drw (Below.refl W2.heap.size W2) m3
  obtain ⟨W3, hW3⟩ : ∃ W3, W2.drewN m3 = W3 := ⟨_, rfl⟩
  rw [hW3] at hb3 ⊢
  have hX3 : Below W0.heap.size W0 W3 := hb1.out.trans ((hb2.out.trans (hb3.mono hb2.out.size)).mono hb1.out.size)
  have HN3 : Hid (NV W3 (some ⟨w.heap.size, 0, none⟩) 4 4 alN) := HN.out.on hX3
  have HE3 : Hid (EG W3) := HE0.out.keep hX3
  have HB3 : Hid (Below w.heap.size w W3) := HB0.out.trans (hX3.mono HB0.out.size)
  clear hX3 hb3 hW3 hb1 hb2 hB1 hN2 HN1 HN2 hW0 HN HE0 HB0
  go_wp2
  rw [rounds_succ]
  go_wp2_with (go_at_call 20; refine StopQ.out ?_)
  refine ⟨Calls.mono (enc_ok W3 _ 4 4 alN HN3.out al_tags HE3.out 2 Q2.out.1) ?_⟩
  rintro e W4 ⟨a4, c4, rfl, hB4, hb4⟩
  have HN4 : Hid (NV W4 (some ⟨w.heap.size, 0, none⟩) 4 4 alN) := HN3.out.on hb4.out
  go_wp2_with (go_at_call 10; refine StopQ.out ?_)
  refine ⟨Calls.mono (dec_ok W4 a4 _ c4 (outB 2 alN) 2 alN hB4.out Q2.out.2) ?_⟩
  rintro e W5 ⟨a5, c5, rfl, hN5, hb5⟩
  have HN5 : Hid (NV W5 (some ⟨w.heap.size, 0, none⟩) 4 4 alN) := HN4.out.on hb5.out
  go_wp2_with (go_at_call 13; refine StopQ.out ?_)
  refine ⟨Calls.mono (Wk.nodes_same W5 a5 _ 4 c5 4 alN hN5.out HN5.out) ?_⟩
  rintro e W6 ⟨rfl, m6, rfl⟩
  have HB6 : Hid (Below w.heap.size w (W5.drewN m6)) := HB3.out.trans ((hb4.out.trans ((hb5.out.trans ((Wk.below_drw (Below.refl W5.heap.size W5) m6).mono hb5.out.size)).mono hb4.out.size)).mono HB3.out.size)
  go_wp2
  rw [rounds_succ]
  go_wp2
  go_ret
  exact ⟨rfl, HB6.out⟩
end Go.Proofs.YtoikdpjjcnmgeaaGreatDoor
end

section
/-
  DERIVED. Numbers, tags, heads laid down: the document's.
-/
namespace Go.Proofs.YtoikdpjjcnmgeaaGreatDoor
open Go Go.Proofs Go.RowKit
open Wk (Nd NV goN)

theorem le_two (n : Nat) : le 2 n = [UInt8.ofNat n, UInt8.ofNat (n / 256)] := rfl
theorem le_four (n : Nat) : le 4 n = le 2 n ++ le 2 (n / 65536) := by
  show [UInt8.ofNat n, UInt8.ofNat (n / 256), UInt8.ofNat (n / 256 / 256), UInt8.ofNat (n / 256 / 256 / 256)] = [UInt8.ofNat n, UInt8.ofNat (n / 256), UInt8.ofNat (n / 65536), UInt8.ofNat (n / 65536 / 256)]
  rw [show n / 256 / 256 = n / 65536 by omega]
set_option maxRecDepth 100000 in
theorem rhs_any (w : World) (v : Int) (x : Bool) (r : Nat) (hr : (if (x && Rp.lo (Rp.vn v)) = true then 12 else 8) = r) : Calls Tryz.prog 86 #[.int .i64 v, .bool x] w fun e w' => e = .returned (.int .i64 (r : Int)) ∧ Below w.heap.size w w' := by
  have c := Rp.rabout_open w v
  generalize Rp.nm (Rp.vn v) = n at c
  generalize Rp.pd (Rp.vn v) = p at c
  generalize Rp.un (Rp.vn v) = u at c
  generalize Rp.mo (Rp.vn v) = m at c
  generalize Rp.tx (Rp.vn v) = t at c
  generalize Rp.ch (Rp.vn v) = c' at c
  generalize Rp.mu (Rp.vn v) = q at c
  generalize Rp.lo (Rp.vn v) = l at c hr
  generalize decide (1 ≤ v ∧ v ≤ 28) = b at c
  cases x <;> cases l <;> simp at hr <;> subst hr
  all_goals go_enter Tryz.func86, Tryz.ntmps86
  all_goals go_wp2_with (first | (go_at_call 105; refine c.mono ?_; rintro e W1 ⟨rfl, hb⟩) | fail)
  all_goals go_ret
  all_goals exact ⟨rfl, hb.alloc hb.size _⟩
set_option maxRecDepth 100000 in
set_option maxHeartbeats 1000000 in
theorem open_any (w : World) (t : Nat) (ht : t < 4294967296) (v z : Int) (s : ByteArray) (x r : Bool) (hr : (!x && !(Tb.docF t (Tb.upTo 10)).isSome) = r) : Calls Tryz.prog 88 #[.agg #[.int .u32 (t : Int), .int .i64 v, .int .i64 z, .string s], .bool x] w fun e w' => e = .returned (.bool r) ∧ Below w.heap.size w w' := by
  have h0 : Below w.heap.size w (w.alloc (.cells #[.int .u32 (t : Int), .int .i64 v, .int .i64 z, .string s] 54)) := (Below.refl _ _).alloc (Nat.le_refl _) _
  have c := fun W => Tb.rfind_any W t ht
  generalize Tb.docF t (Tb.upTo 10) = O at c hr
  generalize Tb.eT O = e0 at c
  generalize Tb.eM O = e1 at c
  generalize Tb.eV O = e2 at c
  generalize Tb.eS O = e3 at c
  generalize Tb.eL O = e4 at c
  generalize Tb.eN O = e5 at c
  generalize O.isSome = k at c hr
  cases x <;> cases k <;> simp at hr <;> subst hr
  all_goals go_enter Tryz.func88, Tryz.ntmps88
  all_goals go_wp2_with (first | (go_at_call 21; refine (c _).mono ?_; rintro e W1 ⟨rfl, hb⟩) | fail)
  all_goals go_ret
  all_goals exact ⟨rfl, (h0.trans (hb.mono h0.size)).alloc (h0.trans (hb.mono h0.size)).size _⟩
theorem two_list {s : ByteArray} (h : s.size = 2) : s.data.toList = [s[0], s[1]] := by
  have h2 : s.data.size = 2 := h
  apply List.ext_getElem
  · simp [h2]
  · intro i h3 h4
    simp at h4
    rcases (show i = 0 ∨ i = 1 by omega) with rfl | rfl <;> simp <;> rfl
/-- Bytes behind bytes of our own, as a step of a region that draws its order. -/
theorem step_bytes {w : World} {ops : Array Oper} {o : Oper} {a : Act} {K : Act → World → Prop} {Q : Exit → Act → World → Prop} {E : Prop} (hgd : o.guard = none) (s x : Operand)
    (ho : o.op = .call { callee := .builtin .append, args := #[s, x], argTypes := #[22, 22] }) (base : Nat) (v : Value) (ys : List UInt8) (hs : a.eval s = v) (hown : Ob base w v ys)
    (ad : Addr) (m c : Nat) (zs : List UInt8) (hx : a.eval x = .slice (some ad) m c) (hm : zs.length = m) (hm0 : 0 < m) (hnews : ∀ j u, (bvs zs)[j]? = some u → w.cell? (ad.add j) = some u) (hlen : ys.length + m ≤ 100000000) (hbase : base ≤ w.heap.size)
    (h : ∀ u w', Ob base w' u (ys ++ zs) → By base w w' → K (a.put o.dst u) w') :
    if Region.wanted o (yielded ops a.tmps) = true then Oper.wp Tryz.prog o a w K Q else E := by
  obtain ⟨i0, hi, hz0, hz1, hz2⟩ := info_parts info8
  refine step_append_lies w hgd s x 22 ho base 5 i0 (.int .u8 0) 1 1 Tryz.underlying22 hi hz0 hz1 hz2 rfl (by decide) v ys.length (bvs ys) hs hown ad m c (bvs zs) hx (by rw [bvs_len, hm, Nat.mul_one]) hnews (bvs_one zs) hm0 (by simp only [maxLen]; omega) (by omega) hbase _ rfl ?_
  intro g cap w' h2 h3 _ _
  refine h _ w' ?_ (By.grown hown h3 hbase)
  unfold Ob
  rw [List.length_append, hm, bvs_app]
  exact h2
end Go.Proofs.YtoikdpjjcnmgeaaGreatDoor
end
