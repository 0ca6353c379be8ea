import Derived.Test.YtoikdpjjcnmgeaaGreatDoorBl
import Derived.WideMake
section
/-
  DERIVED. The bytes of a data set: the program's.
-/
namespace Go.Proofs.YtoikdpjjcnmgeaaGreatDoor
open Go Go.Proofs Go.RowKit
open Wk (Nd NV goN nxt)

/-- What Encode tells. -/
def EnP (w : World) (s : Int) (L : List Nd) (e : Ending) (w' : World) : Prop := ∃ u ve, e = .returned (.tuple #[u, ve]) ∧ Ob w.heap.size w' u (outB s L) ∧ (outB s L = [] → u = .slice none 0 0) ∧ PErr w' ve (errOf s L) ∧ Below w.heap.size w w'
theorem sz_pos (x : Bool) : ∀ L : List Nd, L ≠ [] → 0 < (encOf x).szP L
  | [], h => absurd rfl h
  | a :: r, _ => by
    have : 8 ≤ (encOf x).hs a := by
      cases x with
      | false => exact Nat.le_refl 8
      | true => show 8 ≤ (if Rp.lo (Rp.vn a.v) = true then 12 else 8); split <;> omega
    show 0 < (encOf x).sz1 a + (encOf x).szP r
    unfold Enc.sz1
    omega
theorem Ob.nil (base : Nat) (w : World) : Ob base w (.slice none 0 0) [] := World.ownsRow_nil _ _ _ _
theorem Ob.low {base b2 : Nat} {w : World} {u : Value} {ys : List UInt8} (h : Ob base w u ys) (hb : b2 ≤ base) : Ob b2 w u ys := Wk.own_base h hb

set_option maxRecDepth 100000 in
set_option maxHeartbeats 2000000 in
/-- Refused. -/
theorem enc_no (w : World) (a : Option Addr) (n cap : Nat) (L : List Nd) (hV : NV w a n cap L) (hT : TagsOk L) (hE : EG w) (s : Int) (he : (errOf s L).isSome = true) : Calls Tryz.prog 20 #[.slice a n cap, .int .i64 s] w (EnP w s L) := by
  have c := size_any w a n cap L hV hT hE s
  have HS : Hid (siz s L = 0 ∧ outB s L = []) := ⟨by unfold siz; rw [if_pos he], by unfold outB; rw [if_pos he]⟩
  have HE : Hid _ := he
  clear hV hT hE he
  go_enter Tryz.func20, Tryz.ntmps20
  go_wp2_with (go_at_call 29; refine StopB.out ?_)
  refine ⟨Calls.mono c ?_⟩
  rintro e W1 ⟨ve, rfl, hp, hb⟩
  rw [HS.out.1]
  obtain ⟨q, rfl⟩ : ∃ q, ve = .iface 70 (.pointer (some ⟨q, 0, none⟩)) := by
    rcases hp with ⟨h, -⟩ | ⟨ls, k, h, hc⟩
    · rw [h] at HE; cases HE.out
    · unfold errOf at h
      split at h
      · cases h; obtain ⟨q, u, h, -⟩ := hc; exact ⟨q, h⟩
      · split at h
        · cases h; obtain ⟨q, u, h, -⟩ := hc; exact ⟨q, h⟩
        · split at h
          · cases h; obtain ⟨q, u, h, -⟩ := hc; exact ⟨q, h⟩
          · cases h
  have HP : Hid _ := hp
  have HB : Hid _ := hb
  clear hp hb c
  go_wp2
  exact bodyPost_ret (v := .tuple #[.slice none 0 0, .iface 70 (.pointer (some ⟨q, 0, none⟩))]) (by simp [results, Tryz.results20, go_sem]) rfl ⟨_, _, rfl, by rw [HS.out.2]; exact Ob.nil _ _, fun _ => rfl, HP.out, HB.out⟩
set_option maxRecDepth 100000 in
set_option maxHeartbeats 2000000 in
theorem enc_I (w : World) (a : Option Addr) (n cap : Nat) (L : List Nd) (hV : NV w a n cap L) (hT : TagsOk L) (hE : EG w) (he : errOf 1 L = none) : Calls Tryz.prog 20 #[.slice a n cap, .int .i64 1] w (EnP w 1 L) := by
  have c := size_any w a n cap L hV hT hE 1
  have hr : (res L).2 = true := by
    rcases hr : (res L).2 with _ | _
    · rw [err_form (by decide) hr] at he; cases he
    · rfl
  have hl : encI.szP L ≤ 1048576 := by
    rcases Nat.lt_or_ge 1048576 (encI.szP L) with h | h
    · rw [err_long (s := 1) (by decide) hr h] at he; cases he
    · exact h
  obtain ⟨k, hk⟩ : ∃ k, encI.szP L = k := ⟨_, rfl⟩
  have HS : Hid (siz 1 L = k ∧ outB 1 L = encI.wP L) := ⟨by unfold siz; rw [he]; exact hk, by unfold outB; rw [he]; rfl⟩
  have HK : Hid (encI.szP L = k) := hk
  rw [hk] at hl
  have HE : Hid (errOf 1 L = none) := he
  have HR : Hid ((res L).2 = true) := hr
  have HV : Hid (NV w a n cap L ∧ TagsOk L) := ⟨hV, hT⟩
  have cx := fun X => syntax_I X
  clear hV hT hE he hk hr
  go_enter Tryz.func20, Tryz.ntmps20
  go_wp2_with (go_at_call 29; refine StopB.out ?_)
  refine ⟨Calls.mono c ?_⟩
  rintro e W1 ⟨ve, rfl, hp, hb⟩
  rw [HS.out.1]
  obtain rfl : ve = .nilIface := by
    rcases hp with ⟨-, h⟩ | ⟨ls, q, h, -⟩
    · exact h
    · rw [HE.out] at h; cases h
  have HB : Hid _ := hb
  clear hp hb c
  by_cases hL : L = []
  · have HO : Hid (k = 0 ∧ outB 1 L = []) := by
      refine ⟨?_, ?_⟩
      · rw [← HK.out, hL]; rfl
      · rw [HS.out.2, hL]; rfl
    obtain rfl := HO.out.1
    clear hL
    go_wp2
    exact bodyPost_ret (v := .tuple #[.slice none 0 0, .nilIface]) (by simp [results, Tryz.results20, go_sem]) rfl ⟨_, _, rfl, by rw [HO.out.2]; exact Ob.nil _ _, fun _ => rfl, .inl ⟨HE.out, rfl⟩, HB.out⟩
  · have hk0 : 0 < k := by rw [← HK.out]; exact sz_pos false L hL
    have hk0I : ¬ (k : Int) = 0 := by omega
    have hk0b : ((k : Int) == 0) = false := beq_eq_false_iff_ne.2 (by omega)
    have hn0 : 0 < n := by
      have := HV.out.1.len
      rcases Nat.eq_zero_or_pos n with h | h
      · exact absurd (List.length_eq_zero_iff.1 (by omega)) hL
      · exact h
    obtain ⟨b, off, rfl, hat⟩ := HV.out.1.lies hn0
    have hbl : b < w.heap.size := Wk.cell_lt (hat 0 (by have := HV.out.1.len; omega)).1
    have HBL : Hid (b < W1.heap.size) := Nat.lt_of_lt_of_le hbl HB.out.size
    obtain ⟨i0, hi, hz0, hz1, hz2⟩ := info_parts info8
    have HZ : Hid (i0.bytes = 1) := hz2
    clear hat hbl hL
    go_wp2_with (first | (go_at_call 30; refine Calls.mono (cx _) ?_; rintro e W2 ⟨rfl, rfl⟩) | (at_make; refine wpList_make_own _ rfl _ _ 22 rfl W1.heap.size 5 i0 _ 1 Tryz.underlying22 hi hz0 hz1 .i64 .i64 _ k rfl rfl ?_ ?_ ?_ ?_ ?_) | fail)
    · rfl
    · rw [HZ.out]; omega
    · unfold maxLen; omega
    · exact Nat.le_refl _
    · intro W3 hown hgr
      have hb3 : Below W1.heap.size W1 W3 := (Below.refl _ _).grown hgr (Nat.le_refl _) (by simp)
      have HB3 : Hid _ := hb3
      have cw := wrI_any L.length W3 W1.heap.size b off n cap L (.slice (some ⟨W1.heap.size, 0, none⟩) 0 k) [] (Nat.le_refl _) ⟨(HV.out.1.on HB.out).on hb3, HBL.out, HV.out.2, res_good HR.out, by rw [HV.out.1.len]; exact (res_ok HR.out).1, by rw [HK.out]; simp; omega, hown, hb3.size⟩
      clear hgr hown hb3
      go_wp2_with (go_at_call 41; refine StopB.out ?_)
      refine ⟨Calls.mono cw ?_⟩
      rintro e W4 ⟨u, rfl, ho, hby⟩
      have hne : encI.wP L ≠ [] := by
        intro h
        have h2 : (encI.wP L).length = encI.szP L := wr_len false _ L (Nat.le_refl _) (res_good HR.out)
        rw [h, HK.out] at h2
        simp at h2
        omega
      have hB4 : Below W1.heap.size W1 W4 := HB3.out.trans hby.out.b
      have HF : Hid (Ob w.heap.size W4 u (outB 1 L) ∧ (outB 1 L = [] → u = .slice none 0 0) ∧ PErr W4 .nilIface (errOf 1 L) ∧ Below w.heap.size w W4) := ⟨by rw [HS.out.2]; exact ho.out.low HB.out.size, fun h => by rw [HS.out.2] at h; exact absurd h hne, .inl ⟨HE.out, rfl⟩, HB.out.trans (hB4.mono HB.out.size)⟩
      obtain ⟨ua, un, uc, rfl⟩ : ∃ ua un uc, u = .slice ua un uc := by
        rcases ho.out.2 with ⟨h, -⟩ | ⟨g, cp, cur, h, -⟩
        · exact ⟨_, _, _, h⟩
        · exact ⟨_, _, _, h⟩
      clear ho hby hne hB4 cw
      go_wp2
      exact bodyPost_ret (v := .tuple #[.slice ua un uc, .nilIface]) (by simp [results, Tryz.results20, go_sem]) rfl ⟨_, _, rfl, HF.out⟩
set_option maxRecDepth 100000 in
set_option maxHeartbeats 2000000 in
theorem enc_E (w : World) (a : Option Addr) (n cap : Nat) (L : List Nd) (hV : NV w a n cap L) (hT : TagsOk L) (hE : EG w) (he : errOf 2 L = none) : Calls Tryz.prog 20 #[.slice a n cap, .int .i64 2] w (EnP w 2 L) := by
  have c := size_any w a n cap L hV hT hE 2
  have hr : (res L).2 = true := by
    rcases hr : (res L).2 with _ | _
    · rw [err_form (by decide) hr] at he; cases he
    · rfl
  have hl : encE.szP L ≤ 1048576 := by
    rcases Nat.lt_or_ge 1048576 (encE.szP L) with h | h
    · rw [err_long (s := 2) (by decide) hr h] at he; cases he
    · exact h
  obtain ⟨k, hk⟩ : ∃ k, encE.szP L = k := ⟨_, rfl⟩
  have HS : Hid (siz 2 L = k ∧ outB 2 L = encE.wP L) := ⟨by unfold siz; rw [he]; exact hk, by unfold outB; rw [he]; rfl⟩
  have HK : Hid (encE.szP L = k) := hk
  rw [hk] at hl
  have HE : Hid (errOf 2 L = none) := he
  have HR : Hid ((res L).2 = true) := hr
  have HV : Hid (NV w a n cap L ∧ TagsOk L) := ⟨hV, hT⟩
  have cx := fun X => syntax_E X
  clear hV hT hE he hk hr
  go_enter Tryz.func20, Tryz.ntmps20
  go_wp2_with (go_at_call 29; refine StopB.out ?_)
  refine ⟨Calls.mono c ?_⟩
  rintro e W1 ⟨ve, rfl, hp, hb⟩
  rw [HS.out.1]
  obtain rfl : ve = .nilIface := by
    rcases hp with ⟨-, h⟩ | ⟨ls, q, h, -⟩
    · exact h
    · rw [HE.out] at h; cases h
  have HB : Hid _ := hb
  clear hp hb c
  by_cases hL : L = []
  · have HO : Hid (k = 0 ∧ outB 2 L = []) := by
      refine ⟨?_, ?_⟩
      · rw [← HK.out, hL]; rfl
      · rw [HS.out.2, hL]; rfl
    obtain rfl := HO.out.1
    clear hL
    go_wp2
    exact bodyPost_ret (v := .tuple #[.slice none 0 0, .nilIface]) (by simp [results, Tryz.results20, go_sem]) rfl ⟨_, _, rfl, by rw [HO.out.2]; exact Ob.nil _ _, fun _ => rfl, .inl ⟨HE.out, rfl⟩, HB.out⟩
  · have hk0 : 0 < k := by rw [← HK.out]; exact sz_pos true L hL
    have hk0I : ¬ (k : Int) = 0 := by omega
    have hk0b : ((k : Int) == 0) = false := beq_eq_false_iff_ne.2 (by omega)
    have hn0 : 0 < n := by
      have := HV.out.1.len
      rcases Nat.eq_zero_or_pos n with h | h
      · exact absurd (List.length_eq_zero_iff.1 (by omega)) hL
      · exact h
    obtain ⟨b, off, rfl, hat⟩ := HV.out.1.lies hn0
    have hbl : b < w.heap.size := Wk.cell_lt (hat 0 (by have := HV.out.1.len; omega)).1
    have HBL : Hid (b < W1.heap.size) := Nat.lt_of_lt_of_le hbl HB.out.size
    obtain ⟨i0, hi, hz0, hz1, hz2⟩ := info_parts info8
    have HZ : Hid (i0.bytes = 1) := hz2
    clear hat hbl hL
    go_wp2_with (first | (go_at_call 30; refine Calls.mono (cx _) ?_; rintro e W2 ⟨rfl, rfl⟩) | (at_make; refine wpList_make_own _ rfl _ _ 22 rfl W1.heap.size 5 i0 _ 1 Tryz.underlying22 hi hz0 hz1 .i64 .i64 _ k rfl rfl ?_ ?_ ?_ ?_ ?_) | fail)
    · rfl
    · rw [HZ.out]; omega
    · unfold maxLen; omega
    · exact Nat.le_refl _
    · intro W3 hown hgr
      have hb3 : Below W1.heap.size W1 W3 := (Below.refl _ _).grown hgr (Nat.le_refl _) (by simp)
      have HB3 : Hid _ := hb3
      have cw := wrE_any L.length W3 W1.heap.size b off n cap L (.slice (some ⟨W1.heap.size, 0, none⟩) 0 k) [] (Nat.le_refl _) ⟨(HV.out.1.on HB.out).on hb3, HBL.out, HV.out.2, res_good HR.out, by rw [HV.out.1.len]; exact (res_ok HR.out).1, by rw [HK.out]; simp; omega, hown, hb3.size⟩
      clear hgr hown hb3
      go_wp2_with (go_at_call 41; refine StopB.out ?_)
      refine ⟨Calls.mono cw ?_⟩
      rintro e W4 ⟨u, rfl, ho, hby⟩
      have hne : encE.wP L ≠ [] := by
        intro h
        have h2 : (encE.wP L).length = encE.szP L := wr_len true _ L (Nat.le_refl _) (res_good HR.out)
        rw [h, HK.out] at h2
        simp at h2
        omega
      have hB4 : Below W1.heap.size W1 W4 := HB3.out.trans hby.out.b
      have HF : Hid (Ob w.heap.size W4 u (outB 2 L) ∧ (outB 2 L = [] → u = .slice none 0 0) ∧ PErr W4 .nilIface (errOf 2 L) ∧ Below w.heap.size w W4) := ⟨by rw [HS.out.2]; exact ho.out.low HB.out.size, fun h => by rw [HS.out.2] at h; exact absurd h hne, .inl ⟨HE.out, rfl⟩, HB.out.trans (hB4.mono HB.out.size)⟩
      obtain ⟨ua, un, uc, rfl⟩ : ∃ ua un uc, u = .slice ua un uc := by
        rcases ho.out.2 with ⟨h, -⟩ | ⟨g, cp, cur, h, -⟩
        · exact ⟨_, _, _, h⟩
        · exact ⟨_, _, _, h⟩
      clear ho hby hne hB4 cw
      go_wp2
      exact bodyPost_ret (v := .tuple #[.slice ua un uc, .nilIface]) (by simp [results, Tryz.results20, go_sem]) rfl ⟨_, _, rfl, HF.out⟩
theorem encode_any (w : World) (a : Option Addr) (n cap : Nat) (L : List Nd) (hV : NV w a n cap L) (hT : TagsOk L) (hE : EG w) (s : Int) : Calls Tryz.prog 20 #[.slice a n cap, .int .i64 s] w (EnP w s L) := by
  rcases he : errOf s L with _ | x
  · by_cases h1 : s = 1
    · subst h1; exact enc_I w a n cap L hV hT hE he
    · by_cases h2 : s = 2
      · subst h2; exact enc_E w a n cap L hV hT hE he
      · rw [err_bad ⟨h1, h2⟩] at he; cases he
  · exact enc_no w a n cap L hV hT hE s (by rw [he]; rfl)
end Go.Proofs.YtoikdpjjcnmgeaaGreatDoor
end

section
/-
  DERIVED. Decode, whole: the program's.
-/
namespace Go.Proofs.YtoikdpjjcnmgeaaGreatDoor
open Go Go.Proofs Go.RowKit
open Wk (Nd nds)
open Go.Sort

theorem own_off {W : World} {base p i : Nat} {u : Value} {e : TypeId} {z : Nat} {v : Value} {n : Nat} {xs : List Value} (h : W.ownsRow base e z v n xs) (hp : p < base) : (W.setCell ⟨p, i, none⟩ u).ownsRow base e z v n xs :=
  ⟨h.1, h.2.imp id (fun ⟨g, cap, cur, h1, h2, h3, h4⟩ => ⟨g, cap, cur, h1, h2, (heap_setCell_other W ⟨p, i, none⟩ g u (fun e => by have e : g = p := e; omega)).trans h3, h4⟩)⟩

set_option maxRecDepth 100000 in
set_option maxHeartbeats 4000000 in
theorem dec_main (w : World) (a : Option Addr) (n cap : Nat) (ys : List UInt8) (x : Bool) (hV : BV w.heap.size w a n cap ys) : Calls Tryz.prog 10 #[.slice a n cap, .int .i64 (if x = true then 2 else 1)] w (DcP w (if x = true then 2 else 1) ys) := by
  have hmf : ∀ (fn : Fn) (first cap : Array Value) (w : World), (Instr.makeFunc fn first cap).run Tryz.prog w = .ok (.func fn first cap) w := fun _ _ _ _ => rfl
  have cS := syn_ok ((w.alloc (.cells #[.slice none 0 0] 25)).alloc (.cells #[.nilIface] 27)) x
  have HN : Hid (ys.length ≤ 1048576 ∧ n = ys.length) := ⟨by rw [← hV.l]; exact hV.s, hV.l⟩
  have b1 : decide ((1048576 : Int) < (n : Int)) = false := decide_eq_false (by have := hV.s; omega)
  have b2 : decide (1048576 < n) = false := decide_eq_false (by have := hV.s; omega)
  obtain ⟨s, hs⟩ : ∃ s : Int, (if x = true then 2 else 1) = s := ⟨_, rfl⟩
  have HS : Hid ((s = 1 ∨ s = 2) ∧ decide (s = 2) = x) := by
    cases x
    · obtain rfl : (1 : Int) = s := hs
      exact ⟨.inl rfl, by decide⟩
    · obtain rfl : (2 : Int) = s := hs
      exact ⟨.inr rfl, by decide⟩
  rw [hs] at cS ⊢
  obtain ⟨X, hX⟩ : ∃ X, ((w.alloc (.cells #[.slice none 0 0] 25)).alloc (.cells #[.nilIface] 27)).setCell ⟨w.heap.size + 1, 0, none⟩ .nilIface = X := ⟨_, rfl⟩
  have HBX : Hid (Below w.heap.size w X) := by rw [← hX]; exact (((Below.refl _ w).alloc (Nat.le_refl _) _).alloc (by simp) _).setCell (p := ⟨w.heap.size + 1, 0, none⟩) (Nat.le_succ _) _
  have x4 : X.cell? ⟨w.heap.size, 0, none⟩ = some (.slice none 0 0) := by rw [← hX]; exact (Rp.cell_set_off (by omega)).trans (by simp)
  have x5 : X.cell? ⟨w.heap.size + 1, 0, none⟩ = some .nilIface := by rw [← hX]; exact Rp.cell_set_eq (u := .nilIface) (by simp)
  have y4 : X.frozen? ⟨w.heap.size, 0, none⟩ = false := by rw [← hX]; simp
  have y5 : X.frozen? ⟨w.heap.size + 1, 0, none⟩ = false := by rw [← hX]; simp
  have cN := newReader_any X a n cap x
  rw [exV_eq] at cN
  have HVX : Hid (∀ W, Below X.heap.size X W → BV X.heap.size W a n cap ys) := fun W hW => hV.up (HBX.out.trans (hW.mono HBX.out.size)) HBX.out.size
  have n1 : w.heap.size ≠ w.heap.size + 1 := by omega
  have n2 : w.heap.size + 1 ≠ w.heap.size := by omega
  clear hs hV
  go_enter_defers Tryz.func10, Tryz.ntmps10
  go_wp2_with (go_at_call 30; refine StopV.out ?_)
  refine ⟨Calls.mono cS ?_⟩
  rintro e W1 ⟨rfl, rfl⟩
  clear cS
  go_wp2_with (go_at_call 33; refine StopV.out ?_)
  refine ⟨Calls.mono cN ?_⟩
  rintro e W1 ⟨rfl, hp1, hb1⟩
  have cR := read_any W1 X.heap.size (X.heap.size + 1) a n cap ys x _ _ hp1.out (HVX.out W1 hb1.out)
  clear cN
  go_wp2_with (go_at_call 34; refine StopV.out ?_)
  refine ⟨Calls.mono cR ?_⟩
  rintro e W2 ⟨he, hb2⟩
  have hb12 : Below X.heap.size X W2 := hb1.out.trans hb2
  have HB12 : Hid _ := hb12
  have c4 := (hb12.cell (Rp.cell_lt x4)).trans x4
  have c5 := (hb12.cell (Rp.cell_lt x5)).trans x5
  have z4 : W2.frozen? ⟨w.heap.size, 0, none⟩ = false := (hb12.frozen (p := ⟨w.heap.size, 0, none⟩) (Rp.cell_lt x4)).trans y4
  have z5 : W2.frozen? ⟨w.heap.size + 1, 0, none⟩ = false := (hb12.frozen (p := ⟨w.heap.size + 1, 0, none⟩) (Rp.cell_lt x5)).trans y5
  have c51 : ∀ v, (W2.setCell ⟨w.heap.size, 0, none⟩ v).cell? ⟨w.heap.size + 1, 0, none⟩ = some .nilIface := fun v => (Rp.cell_set_off n1).trans c5
  clear cR hb1 hb2 hp1
  rcases he with ⟨a', c', ⟨q, rfl, hc⟩, hE⟩ | ⟨nv, M, rfl, hr, hE, hM⟩
  · obtain ⟨W9, hW9⟩ : ∃ W9, (W2.setCell ⟨w.heap.size, 0, none⟩ (.slice none 0 0)).setCell ⟨w.heap.size + 1, 0, none⟩ (.iface 70 (.pointer (some ⟨q, 0, none⟩))) = W9 := ⟨_, rfl⟩
    have HCH : Hid (Chain W9 [(dsB, (a' : Int))] (c' : Int) (.iface 70 (.pointer (some ⟨q, 0, none⟩)))) := by
      rw [← hW9]
      exact chain_set (u := .nilIface) (chain_set (u := .slice none 0 0) hc c4 (fun _ h => nomatch h)) (c51 _) (fun _ h => nomatch h)
    have HBL : Hid (Below w.heap.size w W9) := by
      rw [← hW9]
      exact ((HBX.out.trans (HB12.out.mono HBX.out.size)).setCell (p := ⟨w.heap.size, 0, none⟩) (Nat.le_refl _) _).setCell (p := ⟨w.heap.size + 1, 0, none⟩) (Nat.le_succ _) _
    have u4 : W9.cell? ⟨w.heap.size, 0, none⟩ = some (.slice none 0 0) := by rw [← hW9]; exact (Rp.cell_set_off n2).trans (Rp.cell_set_eq c4)
    have u5 : W9.cell? ⟨w.heap.size + 1, 0, none⟩ = some (.iface 70 (.pointer (some ⟨q, 0, none⟩))) := by rw [← hW9]; exact Rp.cell_set_eq (c51 _)
    refine leaves_cons (f := 32) (args := #[.pointer (some ⟨w.heap.size, 0, none⟩), .pointer (some ⟨w.heap.size + 1, 0, none⟩)]) (by simp) (by simp [go_sem]) ?_
    refine (catch_panicking w.heap.size (w.heap.size + 1) q [] W2 _ _ c4 z4 c5 z5 n1).mono ?_
    rintro e u' w'' ⟨rfl, rfl, rfl⟩
    rw [hW9]
    simp [Leaves, settle, results, Tryz.results10, go_sem, u4, u5]
    exact ⟨_, _, rfl, .inl ⟨a', c', .inr (.inr ⟨HS.out.1, HN.out.1, by rw [HS.out.2, ← HN.out.2]; exact hE⟩), rfl, HCH.out⟩, HBL⟩
  · obtain ⟨W9, hW9⟩ : ∃ W9, (W2.setCell ⟨w.heap.size, 0, none⟩ nv).setCell ⟨w.heap.size + 1, 0, none⟩ .nilIface = W9 := ⟨_, rfl⟩
    have HBL : Hid (Below w.heap.size w W9) := by
      rw [← hW9]
      exact ((HBX.out.trans (HB12.out.mono HBX.out.size)).setCell (p := ⟨w.heap.size, 0, none⟩) (Nat.le_refl _) _).setCell (p := ⟨w.heap.size + 1, 0, none⟩) (Nat.le_succ _) _
    have u4 : W9.cell? ⟨w.heap.size, 0, none⟩ = some nv := by rw [← hW9]; exact (Rp.cell_set_off n2).trans (Rp.cell_set_eq c4)
    have u5 : W9.cell? ⟨w.heap.size + 1, 0, none⟩ = some .nilIface := by rw [← hW9]; exact Rp.cell_set_eq (c51 _)
    have HRW : Hid (W9.ownsRow w.heap.size 54 4 nv M.length (nds M)) := by
      rw [← hW9]
      exact own_low (own_off (own_off hr (Rp.cell_lt x4)) (Rp.cell_lt x5)) HBX.out.size
    obtain ⟨na, ncap, rfl, -⟩ := own_form hr
    have HE : Hid _ := hE
    have HMO : Hid _ := hM
    clear hr hE hM
    obtain ⟨L, hL⟩ : ∃ L, M.length = L := ⟨_, rfl⟩
    have HL : Hid _ := hL
    rw [hL] at hW9 u4 HRW
    rw [hL]
    clear hL
    go_wp2
    refine leaves_cons (f := 32) (args := #[.pointer (some ⟨w.heap.size, 0, none⟩), .pointer (some ⟨w.heap.size + 1, 0, none⟩)]) (by simp) (by simp [go_sem]) ?_
    refine (catch_idle w.heap.size (w.heap.size + 1) _).mono ?_
    rintro e u' w'' ⟨rfl, rfl, rfl⟩
    simp [Leaves, settle, results, Tryz.results10, go_sem, u4, u5]
    exact ⟨_, _, rfl, .inr ⟨M, ⟨HS.out.1, HN.out.1, by rw [HS.out.2, ← HN.out.2]; exact HE.out⟩, rfl, by rw [HL.out]; exact HRW.out, HMO.out.1, by rw [← HL.out]; exact HMO.out.2⟩, HBL⟩
/-- Bytes that come in, of whatever length. -/
structure BA (base : Nat) (W : World) (a : Option Addr) (n cap : Nat) (ys : List UInt8) : Prop where
  l : n = ys.length
  c : n ≤ cap
  s : n ≤ 9223372036854775807
  m : ∀ k, k < n → ∃ b off, a = some ⟨b, off, none⟩ ∧ b < base ∧ W.cell? ⟨b, off + k, none⟩ = some (.int .u8 (gB ys k : Int))
theorem decode_any (w : World) (a : Option Addr) (n cap : Nat) (ys : List UInt8) (s : Int) (hV : BA w.heap.size w a n cap ys) : Calls Tryz.prog 10 #[.slice a n cap, .int .i64 s] w (DcP w s ys) := by
  by_cases h : s ≠ 1 ∧ s ≠ 2
  · exact dec_no w a n cap ys s h
  · obtain ⟨x, rfl⟩ : ∃ x : Bool, (if x = true then 2 else 1) = s := by
      by_cases h2 : s = 2
      · exact ⟨true, h2.symm⟩
      · refine ⟨false, ?_⟩
        show (1 : Int) = s
        omega
    by_cases hl : 1048576 < n
    · exact dec_long w a n cap ys x hV.l hl hV.s
    · exact dec_main w a n cap ys x ⟨hV.l, hV.c, by omega, hV.m⟩
end Go.Proofs.YtoikdpjjcnmgeaaGreatDoor
end
