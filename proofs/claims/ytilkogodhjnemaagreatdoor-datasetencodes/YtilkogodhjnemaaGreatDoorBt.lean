import Derived.Test.YtilkogodhjnemaaGreatDoorBs
import Derived.Test.YtilkogodhjnemaaGreatDoorBm
/-
  DERIVED. The bytes of a data set: the document's.
-/
namespace Go.Proofs.YtilkogodhjnemaaGreatDoor
open Go Go.Proofs Go.RowKit
open Wk (Nd NV goN nxt)

set_option maxRecDepth 100000 in
theorem lay_zero (w : World) (a : Option Addr) (cap : Nat) (v : Value) (x : Bool) : Calls Tryz.prog 21 #[v, .slice a 0 cap, .int .i64 0, .int .i64 0, .bool x] w fun e w' => e = .returned v ∧ w = w' := by
  go_enter Tryz.func21, Tryz.ntmps21
  go_wp2
  refine wp_loop_rounds 1 ?_
  rw [rounds_succ]
  go_wp2
  go_ret
  exact ⟨rfl, rfl⟩
set_option maxRecDepth 100000 in
theorem any_fault (w : World) (g n c : Nat) (k : Int) (hk : k ≠ 0) : Calls Tryz.prog 20 #[.agg #[.slice (some ⟨g, 0, none⟩) n c, .int .i64 k]] w fun e w' => e = .returned (.bool true) ∧ Below w.heap.size w w' := by
  have bk : (k != 0) = true := by simp [hk]
  clear hk
  go_enter Tryz.func20, Tryz.ntmps20
  go_wp2
  go_ret
  exact ⟨rfl, (Below.refl _ _).alloc (Nat.le_refl _) _⟩
/-- What the document's Encode tells. -/
def EnR (w : World) (s : Int) (L : List Nd) (e : Ending) (w' : World) : Prop := ∃ u vf, e = .returned (.tuple #[u, vf]) ∧ Ob w.heap.size w' u (outB s L) ∧ RErr2 w' vf (errOf s L) ∧ Below w.heap.size w w'
theorem err_code {s : Int} {L : List Nd} {ls : List Lk} {c : Int} (h : errOf s L = some (ls, c)) : c ≠ 0 ∧ 0 < ls.length ∧ ls.length ≤ 2 := by
  unfold errOf at h
  split at h
  · cases h; exact ⟨by decide, by decide, by decide⟩
  · split at h
    · cases h; exact ⟨by decide, by simp, by simp⟩
    · split at h
      · cases h; exact ⟨by decide, by decide, by decide⟩
      · cases h

set_option maxRecDepth 100000 in
set_option maxHeartbeats 2000000 in
theorem renc_no (hS : SomeC 0) (w : World) (a : Option Addr) (n cap : Nat) (L : List Nd) (hV : NV w a n cap L) (hT : TagsOk L) (s : Int) (ls : List Lk) (c : Int) (he : errOf s L = some (ls, c)) : Calls Tryz.prog 7 #[.slice a n cap, .int .i64 s] w (EnR w s L) := by
  obtain ⟨W0, hW0⟩ : ∃ W0, w.alloc (.cells #[.slice none 0 0, .int .i64 0] 34) = W0 := ⟨_, rfl⟩
  have hb0 : Below w.heap.size w W0 := by rw [← hW0]; exact (Below.refl _ _).alloc (Nat.le_refl _) _
  have hf0 : Tb.Fc W0 w.heap.size := by rw [← hW0]; exact ⟨by simp, by simp, fun i => by simp⟩
  have hs0 : W0.heap.size = w.heap.size + 1 := by rw [← hW0]; simp
  have cz := rsize_any hS W0 a n cap L (hV.on hb0) hT s
  obtain ⟨hc0, hl0, -⟩ := err_code he
  have HS : Hid (outB s L = []) := by show _ = _; unfold outB; rw [he]; rfl
  have HE : Hid (errOf s L = some (ls, c)) := he
  have HB0 : Hid (Below w.heap.size w W0 ∧ Tb.Fc W0 w.heap.size ∧ W0.heap.size = w.heap.size + 1) := ⟨hb0, hf0, hs0⟩
  have HL0 : Hid (0 < ls.length) := hl0
  clear hV hT hb0 hf0 hs0 hS he hl0
  go_enter Tryz.func7, Tryz.ntmps7
  go_wp2_with (go_at_call 19; refine StopB.out ?_)
  refine ⟨Calls.mono cz ?_⟩
  rintro e W2 ⟨vf, rfl, hre, hb2⟩
  obtain ⟨g, cg, rfl, hlk⟩ : ∃ g cg, vf = .agg #[.slice (some ⟨g, 0, none⟩) ls.length cg, .int .i64 c] ∧ LkAt W2 g ls := by
    rcases hre with ⟨h, -⟩ | ⟨ls', c', g, cg, h1, h2, h3⟩
    · rw [HE.out] at h; cases h
    · rw [HE.out] at h1; cases h1; exact ⟨g, cg, h2, h3⟩
  obtain ⟨k, hk⟩ : ∃ k, ls.length = k := ⟨_, rfl⟩
  rw [hk]
  have HK : Hid _ := hk
  have HLK : Hid (LkAt W2 g ls) := hlk
  have HF2 : Hid (Tb.Fc W2 w.heap.size) := HB0.out.2.1.next hb2
  have HB2 : Hid (Below w.heap.size w W2) := HB0.out.1.trans (hb2.mono HB0.out.1.size)
  have HZ2 : Hid (w.heap.size + 1 ≤ W2.heap.size) := by have := hb2.size; have := HB0.out.2.2; show _ ≤ _; omega
  obtain ⟨W3, hW3⟩ : ∃ W3, W2.alloc (.cells #[.slice (some ⟨g, 0, none⟩) k cg, .int .i64 c] 34) = W3 := ⟨_, rfl⟩
  have hb3 : Below W2.heap.size W2 W3 := by rw [← hW3]; exact (Below.refl _ _).alloc (Nat.le_refl _) _
  have x0 : W3.cell? ⟨W2.heap.size, 0, none⟩ = some (.slice (some ⟨g, 0, none⟩) k cg) := by rw [← hW3]; simp
  have x1 : W3.cell? ⟨W2.heap.size, 1, none⟩ = some (.int .i64 c) := by rw [← hW3]; simp
  have HB3 : Hid (Below W2.heap.size W2 W3) := hb3
  clear hre hb2 cz hW0 hk hlk hb3
  go_wp2_with (go_at_call 20; refine StopB.out ?_)
  refine ⟨Calls.mono (any_fault _ _ _ _ _ hc0) ?_⟩
  rintro e W4 ⟨rfl, hb4⟩
  have z0 := (hb4.cell (p := ⟨W2.heap.size, 0, none⟩) (Tb.cell_lt x0)).trans x0
  have z1 := (hb4.cell (p := ⟨W2.heap.size, 1, none⟩) (Tb.cell_lt x1)).trans x1
  have h24 : Below W2.heap.size W2 W4 := HB3.out.trans (hb4.mono HB3.out.size)
  have hf4 := HF2.out.next h24
  obtain ⟨p0, p1⟩ := Tb.Fc.sets hf4 (.slice (some ⟨g, 0, none⟩) k cg) (.int .i64 c)
  have HP : Hid _ := And.intro p0 p1
  obtain ⟨f0, f1, ff⟩ := hf4
  have hne : w.heap.size ≠ W2.heap.size := by have := HZ2.out; omega
  have hg2 : w.heap.size ≠ g := by
    rintro rfl
    have := (HLK.out 0 HL0.out).1
    rw [show 0 * 2 = 0 from rfl, HF2.out.c0] at this
    cases this
  have HL4 : Hid (LkAt W4 g ls) := HLK.out.on h24
  have HB4 : Hid (Below w.heap.size w W4) := HB2.out.trans (h24.mono HB2.out.size)
  clear p0 p1 x0 x1 hW3 hb4 h24 hc0
  go_wp2
  go_region
  all_goals go_wp2
  all_goals obtain ⟨p0, p1⟩ := HP.out
  all_goals refine bodyPost_ret (v := .tuple #[.slice none 0 0, .agg #[.slice (some ⟨g, 0, none⟩) k cg, .int .i64 c]]) (by simp only [results, Tryz.results7]; simp [go_sem, p0, p1]) rfl ⟨_, _, rfl, by rw [HS.out]; exact Ob.nil _ _, ?_, ?_⟩
  · rw [HE.out]
    refine .inr ⟨ls, c, g, cg, rfl, by rw [HK.out], fun i hi => ?_⟩
    exact (HL4.out.off hg2 _ _) i hi
  · exact ((HB4.out.setCell (p := ⟨w.heap.size, 0, none⟩) (Nat.le_refl _) _).setCell (p := ⟨w.heap.size, 1, none⟩) (Nat.le_refl _) _).drew
set_option maxRecDepth 100000 in
set_option maxHeartbeats 2000000 in
theorem renc_I (hS : SomeC 0) (w : World) (a : Option Addr) (n cap : Nat) (L : List Nd) (hV : NV w a n cap L) (hT : TagsOk L) (he : errOf 1 L = none) : Calls Tryz.prog 7 #[.slice a n cap, .int .i64 1] w (EnR w 1 L) := by
  obtain ⟨W0, hW0⟩ : ∃ W0, w.alloc (.cells #[.slice none 0 0, .int .i64 0] 34) = W0 := ⟨_, rfl⟩
  have hb0 : Below w.heap.size w W0 := by rw [← hW0]; exact (Below.refl _ _).alloc (Nat.le_refl _) _
  have hf0 : Tb.Fc W0 w.heap.size := by rw [← hW0]; exact ⟨by simp, by simp, fun i => by simp⟩
  have hs0 : W0.heap.size = w.heap.size + 1 := by rw [← hW0]; simp
  have hfb : W0.heap[w.heap.size]? = some (.cells #[.slice none 0 0, .int .i64 0] 34 (0, 0)) := by rw [← hW0]; exact Wk.heap_new w _
  have cz := rsize_any hS W0 a n cap L (hV.on hb0) hT 1
  have hr : (res L).2 = true := by
    rcases hr : (res L).2 with _ | _
    · rw [err_form (by decide) hr] at he; cases he
    · rfl
  have hl : encI.szP L ≤ 1048576 := by
    rcases Nat.lt_or_ge 1048576 (encI.szP L) with h | h
    · rw [err_long (s := 1) (by decide) hr h] at he; cases he
    · exact h
  have hwf := res_wf hr
  have hgd := res_good hr
  obtain ⟨h40, -⟩ := res_ok hr
  have hlen := hV.len
  have hsame := Enc.same fitI _ false _ hwf
  have HO : Hid (outB 1 L = encI.lD false L) := by
    show _ = _
    unfold outB
    rw [he]
    exact hsame.2.symm
  have hsd : encI.sD false L ≤ 1048576 := by
    have : encI.sD false L = encI.szP L := hsame.1
    omega
  have HLY : Hid (∀ X : World, Below w.heap.size w X → Calls Tryz.prog 21 #[.slice none 0 0, .slice a n cap, .int .i64 0, .int .i64 (n : Int), .bool false] X fun r W' => ∃ u, r = .returned u ∧ Hid (Ob X.heap.size W' u (outB 1 L)) ∧ Hid (Below X.heap.size X W')) := by
    intro X hX
    rcases Nat.eq_zero_or_pos n with h0 | h0
    · subst h0
      have hL : L = [] := List.length_eq_zero_iff.1 (by omega)
      refine Calls.mono (lay_zero X a cap (.slice none 0 0) false) ?_
      rintro e W' ⟨rfl, rfl⟩
      refine ⟨_, rfl, ?_, Below.refl _ _⟩
      rw [HO.out, hL]
      exact Ob.nil _ _
    · obtain ⟨b, off, rfl, hat⟩ := hV.lies h0
      have hbl : b < w.heap.size := Wk.cell_lt (hat 0 (by omega)).1
      have h1 := rl_any n X X.heap.size b off n cap L false 0 n (.slice none 0 0) [] (by omega) ⟨hV.on hX, Nat.lt_of_lt_of_le hbl hX.size, hT, hgd, by omega, Nat.le_refl _⟩ (Nat.zero_le _) (Nat.le_refl _) (by rw [hlen]; exact Lev.top L) (by unfold Wf; rw [hlen, sub_all]; exact hwf) (Ob.nil _ _) (by
        rw [hlen, sub_all]
        have : (encOf false).sD false L = encI.sD false L := rfl
        simp only [List.length_nil]
        omega)
      refine Calls.mono h1 ?_
      rintro e W' ⟨u, rfl, ho, hb⟩
      refine ⟨u, rfl, ?_, hb.out.b⟩
      have h2 := ho.out
      rw [List.nil_append, hlen, sub_all] at h2
      rw [HO.out]
      exact h2
  have HE : Hid (errOf 1 L = none) := he
  have HB0 : Hid (Below w.heap.size w W0 ∧ W0.heap[w.heap.size]? = some (.cells #[.slice none 0 0, .int .i64 0] 34 (0, 0)) ∧ W0.heap.size = w.heap.size + 1) := ⟨hb0, hfb, hs0⟩
  have HF0 : Hid _ := hf0
  clear hV hT hb0 hf0 hs0 hS he hfb hr hl hwf hgd h40 hlen hsame hsd HO
  go_enter Tryz.func7, Tryz.ntmps7
  go_wp2_with (go_at_call 19; refine StopB.out ?_)
  refine ⟨Calls.mono cz ?_⟩
  rintro e W2 ⟨vf, rfl, hre, hb2⟩
  obtain rfl : vf = .agg #[.slice none 0 0, .int .i64 0] := by
    rcases hre with ⟨-, h⟩ | ⟨ls', c', g, cg, h1, -⟩
    · exact h
    · rw [HE.out] at h1; cases h1
  have HF2 : Hid (Tb.Fc W2 w.heap.size) := HF0.out.next hb2
  have HB2 : Hid (Below w.heap.size w W2) := HB0.out.1.trans (hb2.mono HB0.out.1.size)
  have HZ2 : Hid (w.heap.size + 1 ≤ W2.heap.size) := by have := hb2.size; have := HB0.out.2.2; show _ ≤ _; omega
  clear hre hb2 cz hW0
  go_wp2_with (go_at_call 20; refine StopB.out ?_)
  refine ⟨Calls.mono (any_none _) ?_⟩
  rintro e W4 ⟨rfl, hb4'⟩
  have h24 : Below W2.heap.size W2 W4 := ((Below.refl W2.heap.size W2).alloc (Nat.le_refl _) _).trans (hb4'.mono (by simp))
  have HF4 : Hid (Tb.Fc W4 w.heap.size) := HF2.out.next h24
  have HB4 : Hid (Below w.heap.size w W4) := HB2.out.trans (h24.mono HB2.out.size)
  have HZ4 : Hid (w.heap.size + 1 ≤ W4.heap.size) := Nat.le_trans HZ2.out h24.size
  clear hb4' h24
  go_wp2_with (go_at_call 21; refine StopB.out ?_)
  refine ⟨Calls.mono (HLY.out W4 HB4.out) ?_⟩
  rintro e W5 ⟨u, rfl, ho, hb5⟩
  go_wp2_with (go_at_call 22; refine StopB.out ?_)
  refine ⟨Calls.mono (Tb.none_any W5) ?_⟩
  rintro e W6 ⟨rfl, hb6⟩
  have h46 : Below W4.heap.size W4 W6 := hb5.out.trans (hb6.mono hb5.out.size)
  have hf6 := HF4.out.next h46
  obtain ⟨p0, p1⟩ := Tb.Fc.sets hf6 (.slice none 0 0) (.int .i64 0)
  have HP : Hid _ := And.intro p0 p1
  obtain ⟨f0, f1, ff⟩ := hf6
  have HB6 : Hid (Below w.heap.size w W6) := HB4.out.trans (h46.mono HB4.out.size)
  have HO6 : Hid (Ob W4.heap.size W6 u (outB 1 L)) := ho.out.on hb6
  obtain ⟨ua, un, uc, rfl⟩ : ∃ ua un uc, u = .slice ua un uc := by
    rcases ho.out.2 with ⟨h, -⟩ | ⟨g, cp, cur, h, -⟩
    · exact ⟨_, _, _, h⟩
    · exact ⟨_, _, _, h⟩
  clear p0 p1 ho hb5 hb6 h46
  go_wp2
  obtain ⟨p0, p1⟩ := HP.out
  refine bodyPost_ret (v := .tuple #[.slice ua un uc, .agg #[.slice none 0 0, .int .i64 0]]) (by simp only [results, Tryz.results7]; simp [go_sem, p0, p1]) rfl ⟨_, _, rfl, ?_, .inl ⟨HE.out, rfl⟩, (HB6.out.setCell (p := ⟨w.heap.size, 0, none⟩) (Nat.le_refl _) _).setCell (p := ⟨w.heap.size, 1, none⟩) (Nat.le_refl _) _⟩
  have hkeep : Ob W4.heap.size ((W6.setCell ⟨w.heap.size, 0, none⟩ (.slice none 0 0)).setCell ⟨w.heap.size, 1, none⟩ (.int .i64 0)) (.slice ua un uc) (outB 1 L) := Wk.own_keep HO6.out (fun g' hg' => by
    have h1 := (HO6.out.lt g' hg').1
    have h2 := HZ4.out
    exact (Below.heap_setCell _ _ _ g' (by simp; omega)).trans (Below.heap_setCell _ _ _ g' (by simp; omega)))
  exact hkeep.low HB4.out.size
set_option maxRecDepth 100000 in
set_option maxHeartbeats 2000000 in
theorem renc_E (hS : SomeC 0) (w : World) (a : Option Addr) (n cap : Nat) (L : List Nd) (hV : NV w a n cap L) (hT : TagsOk L) (he : errOf 2 L = none) : Calls Tryz.prog 7 #[.slice a n cap, .int .i64 2] w (EnR w 2 L) := by
  obtain ⟨W0, hW0⟩ : ∃ W0, w.alloc (.cells #[.slice none 0 0, .int .i64 0] 34) = W0 := ⟨_, rfl⟩
  have hb0 : Below w.heap.size w W0 := by rw [← hW0]; exact (Below.refl _ _).alloc (Nat.le_refl _) _
  have hf0 : Tb.Fc W0 w.heap.size := by rw [← hW0]; exact ⟨by simp, by simp, fun i => by simp⟩
  have hs0 : W0.heap.size = w.heap.size + 1 := by rw [← hW0]; simp
  have hfb : W0.heap[w.heap.size]? = some (.cells #[.slice none 0 0, .int .i64 0] 34 (0, 0)) := by rw [← hW0]; exact Wk.heap_new w _
  have cz := rsize_any hS W0 a n cap L (hV.on hb0) hT 2
  have hr : (res L).2 = true := by
    rcases hr : (res L).2 with _ | _
    · rw [err_form (by decide) hr] at he; cases he
    · rfl
  have hl : encE.szP L ≤ 1048576 := by
    rcases Nat.lt_or_ge 1048576 (encE.szP L) with h | h
    · rw [err_long (s := 2) (by decide) hr h] at he; cases he
    · exact h
  have hwf := res_wf hr
  have hgd := res_good hr
  obtain ⟨h40, -⟩ := res_ok hr
  have hlen := hV.len
  have hsame := Enc.same fitE _ false _ hwf
  have HO : Hid (outB 2 L = encE.lD false L) := by
    show _ = _
    unfold outB
    rw [he]
    exact hsame.2.symm
  have hsd : encE.sD false L ≤ 1048576 := by
    have : encE.sD false L = encE.szP L := hsame.1
    omega
  have HLY : Hid (∀ X : World, Below w.heap.size w X → Calls Tryz.prog 21 #[.slice none 0 0, .slice a n cap, .int .i64 0, .int .i64 (n : Int), .bool true] X fun r W' => ∃ u, r = .returned u ∧ Hid (Ob X.heap.size W' u (outB 2 L)) ∧ Hid (Below X.heap.size X W')) := by
    intro X hX
    rcases Nat.eq_zero_or_pos n with h0 | h0
    · subst h0
      have hL : L = [] := List.length_eq_zero_iff.1 (by omega)
      refine Calls.mono (lay_zero X a cap (.slice none 0 0) true) ?_
      rintro e W' ⟨rfl, rfl⟩
      refine ⟨_, rfl, ?_, Below.refl _ _⟩
      rw [HO.out, hL]
      exact Ob.nil _ _
    · obtain ⟨b, off, rfl, hat⟩ := hV.lies h0
      have hbl : b < w.heap.size := Wk.cell_lt (hat 0 (by omega)).1
      have h1 := rl_any n X X.heap.size b off n cap L true 0 n (.slice none 0 0) [] (by omega) ⟨hV.on hX, Nat.lt_of_lt_of_le hbl hX.size, hT, hgd, by omega, Nat.le_refl _⟩ (Nat.zero_le _) (Nat.le_refl _) (by rw [hlen]; exact Lev.top L) (by unfold Wf; rw [hlen, sub_all]; exact hwf) (Ob.nil _ _) (by
        rw [hlen, sub_all]
        have : (encOf true).sD false L = encE.sD false L := rfl
        simp only [List.length_nil]
        omega)
      refine Calls.mono h1 ?_
      rintro e W' ⟨u, rfl, ho, hb⟩
      refine ⟨u, rfl, ?_, hb.out.b⟩
      have h2 := ho.out
      rw [List.nil_append, hlen, sub_all] at h2
      rw [HO.out]
      exact h2
  have HE : Hid (errOf 2 L = none) := he
  have HB0 : Hid (Below w.heap.size w W0 ∧ W0.heap[w.heap.size]? = some (.cells #[.slice none 0 0, .int .i64 0] 34 (0, 0)) ∧ W0.heap.size = w.heap.size + 1) := ⟨hb0, hfb, hs0⟩
  have HF0 : Hid _ := hf0
  clear hV hT hb0 hf0 hs0 hS he hfb hr hl hwf hgd h40 hlen hsame hsd HO
  go_enter Tryz.func7, Tryz.ntmps7
  go_wp2_with (go_at_call 19; refine StopB.out ?_)
  refine ⟨Calls.mono cz ?_⟩
  rintro e W2 ⟨vf, rfl, hre, hb2⟩
  obtain rfl : vf = .agg #[.slice none 0 0, .int .i64 0] := by
    rcases hre with ⟨-, h⟩ | ⟨ls', c', g, cg, h1, -⟩
    · exact h
    · rw [HE.out] at h1; cases h1
  have HF2 : Hid (Tb.Fc W2 w.heap.size) := HF0.out.next hb2
  have HB2 : Hid (Below w.heap.size w W2) := HB0.out.1.trans (hb2.mono HB0.out.1.size)
  have HZ2 : Hid (w.heap.size + 1 ≤ W2.heap.size) := by have := hb2.size; have := HB0.out.2.2; show _ ≤ _; omega
  clear hre hb2 cz hW0
  go_wp2_with (go_at_call 20; refine StopB.out ?_)
  refine ⟨Calls.mono (any_none _) ?_⟩
  rintro e W4 ⟨rfl, hb4'⟩
  have h24 : Below W2.heap.size W2 W4 := ((Below.refl W2.heap.size W2).alloc (Nat.le_refl _) _).trans (hb4'.mono (by simp))
  have HF4 : Hid (Tb.Fc W4 w.heap.size) := HF2.out.next h24
  have HB4 : Hid (Below w.heap.size w W4) := HB2.out.trans (h24.mono HB2.out.size)
  have HZ4 : Hid (w.heap.size + 1 ≤ W4.heap.size) := Nat.le_trans HZ2.out h24.size
  clear hb4' h24
  go_wp2_with (go_at_call 21; refine StopB.out ?_)
  refine ⟨Calls.mono (HLY.out W4 HB4.out) ?_⟩
  rintro e W5 ⟨u, rfl, ho, hb5⟩
  go_wp2_with (go_at_call 22; refine StopB.out ?_)
  refine ⟨Calls.mono (Tb.none_any W5) ?_⟩
  rintro e W6 ⟨rfl, hb6⟩
  have h46 : Below W4.heap.size W4 W6 := hb5.out.trans (hb6.mono hb5.out.size)
  have hf6 := HF4.out.next h46
  obtain ⟨p0, p1⟩ := Tb.Fc.sets hf6 (.slice none 0 0) (.int .i64 0)
  have HP : Hid _ := And.intro p0 p1
  obtain ⟨f0, f1, ff⟩ := hf6
  have HB6 : Hid (Below w.heap.size w W6) := HB4.out.trans (h46.mono HB4.out.size)
  have HO6 : Hid (Ob W4.heap.size W6 u (outB 2 L)) := ho.out.on hb6
  obtain ⟨ua, un, uc, rfl⟩ : ∃ ua un uc, u = .slice ua un uc := by
    rcases ho.out.2 with ⟨h, -⟩ | ⟨g, cp, cur, h, -⟩
    · exact ⟨_, _, _, h⟩
    · exact ⟨_, _, _, h⟩
  clear p0 p1 ho hb5 hb6 h46
  go_wp2
  obtain ⟨p0, p1⟩ := HP.out
  refine bodyPost_ret (v := .tuple #[.slice ua un uc, .agg #[.slice none 0 0, .int .i64 0]]) (by simp only [results, Tryz.results7]; simp [go_sem, p0, p1]) rfl ⟨_, _, rfl, ?_, .inl ⟨HE.out, rfl⟩, (HB6.out.setCell (p := ⟨w.heap.size, 0, none⟩) (Nat.le_refl _) _).setCell (p := ⟨w.heap.size, 1, none⟩) (Nat.le_refl _) _⟩
  have hkeep : Ob W4.heap.size ((W6.setCell ⟨w.heap.size, 0, none⟩ (.slice none 0 0)).setCell ⟨w.heap.size, 1, none⟩ (.int .i64 0)) (.slice ua un uc) (outB 2 L) := Wk.own_keep HO6.out (fun g' hg' => by
    have h1 := (HO6.out.lt g' hg').1
    have h2 := HZ4.out
    exact (Below.heap_setCell _ _ _ g' (by simp; omega)).trans (Below.heap_setCell _ _ _ g' (by simp; omega)))
  exact hkeep.low HB4.out.size
theorem rencode_any (hS : SomeC 0) (w : World) (a : Option Addr) (n cap : Nat) (L : List Nd) (hV : NV w a n cap L) (hT : TagsOk L) (s : Int) : Calls Tryz.prog 7 #[.slice a n cap, .int .i64 s] w (EnR w s L) := by
  rcases he : errOf s L with _ | ⟨ls, c⟩
  · by_cases h1 : s = 1
    · subst h1; exact renc_I hS w a n cap L hV hT he
    · by_cases h2 : s = 2
      · subst h2; exact renc_E hS w a n cap L hV hT he
      · rw [err_bad ⟨h1, h2⟩] at he; cases he
  · exact renc_no hS w a n cap L hV hT s ls c he
end Go.Proofs.YtilkogodhjnemaaGreatDoor
