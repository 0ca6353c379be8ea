import Derived.Test.YtoikdpjjcnmgeaaGreatDoorZo
import Derived.Test.YtoikdpjjcnmgeaaGreatDoorZe
import Derived.Test.YtoikdpjjcnmgeaaGreatDoorZf
import Derived.Test.YtoikdpjjcnmgeaaGreatDoorZi0
import Derived.Test.YtoikdpjjcnmgeaaGreatDoorZi1
import Derived.Test.YtoikdpjjcnmgeaaGreatDoorZr0
import Derived.Test.YtoikdpjjcnmgeaaGreatDoorZr1
section
/-
  DERIVED. What stands behind a head, sequences, elements: the document's: all of it.
-/
namespace Go.Proofs.YtoikdpjjcnmgeaaGreatDoor
open Go Go.Proofs Go.RowKit
open Wk (Nd nds)
open Go.Sort

theorem el_step (d : Nat) (hit : ItC d) : ElC d := by
  intro w base rb a n cap ys L nv k fin ex same h hA hfn hsz hkf hg18 hlen hex
  obtain ⟨v, sz, len, hx⟩ := h
  have hsz : 8 ≤ sz := hsz
  have hkf : k + sz ≤ fin := hkf
  have hlen : len < 4294967296 := hlen
  have hg18 : tagS ys k % 65536 = 0 → v ≠ 18 := hg18
  have hex : (ex && same) = hx := hex
  by_cases hv : v = 18
  · have hg : ¬ tagS ys k % 65536 = 0 := fun e => hg18 e hv
    by_cases hu : len = und
    · by_cases hm : L.length = 4096
      · exact el_F3 d w base rb a n cap ys L nv k fin ex same v sz len hx hA hfn hsz hkf hlen hu hv hg hm
      · exact el_I d w base rb a n cap ys L nv k fin ex same v sz len hx hA hfn hsz hkf hlen hit hu hv hg hm hex
    · by_cases ho : len % 2 = 1
      · exact el_B d w base rb a n cap ys L nv k fin ex same v sz len hx hA hfn hsz hkf hlen hu ho
      by_cases hs : fin - k - sz < len
      · exact el_D1 d w base rb a n cap ys L nv k fin ex same v sz len hx hA hfn hsz hkf hlen hu ho hv hs
      by_cases hm : L.length = 4096
      · exact el_F1 d w base rb a n cap ys L nv k fin ex same v sz len hx hA hfn hsz hkf hlen hu ho hv hs hg hm
      · exact el_H d w base rb a n cap ys L nv k fin ex same v sz len hx hA hfn hsz hkf hlen hit hu ho hv hs hg hm hex
  · by_cases hu : len = und
    · exact el_A d w base rb a n cap ys L nv k fin ex same v sz len hx hA hfn hsz hkf hlen hu hv
    by_cases ho : len % 2 = 1
    · exact el_B d w base rb a n cap ys L nv k fin ex same v sz len hx hA hfn hsz hkf hlen hu ho
    by_cases hL : 65534 < len
    · exact el_C d w base rb a n cap ys L nv k fin ex same v sz len hx hA hfn hsz hkf hlen hu ho hv hL
    by_cases hs : fin - k - sz < len
    · exact el_D2 d w base rb a n cap ys L nv k fin ex same v sz len hx hA hfn hsz hkf hlen hu ho hv hL hs
    by_cases hg : tagS ys k % 65536 = 0
    · exact el_E d w base rb a n cap ys L nv k fin ex same v sz len hx hA hfn hsz hkf hlen hu ho hv hL hs hg
    by_cases hm : L.length = 4096
    · exact el_F2 d w base rb a n cap ys L nv k fin ex same v sz len hx hA hfn hsz hkf hlen hu ho hv hL hs hg hm
    have hc := hA.bv.c
    rcases Nat.lt_or_ge (k + sz) cap with h | h
    · exact el_G d w base rb a n cap ys L nv k fin ex same v sz len hx hA hfn hsz hkf hlen hu ho hv hL hs hg hm h
    · exact el_G0 d w base rb a n cap ys L nv k fin ex same v sz len hx hA hfn hsz hkf hlen hu ho hv hL hs hg hm (by omega)
theorem it_step (d : Nat) (hd : d ≤ 4) (hrm : d + 1 ≤ 4 → RmC (d + 1)) : ItC d := by
  intro w base rb a n cap ys L nv k fin opn ex hA hkf hfn
  cases opn with
  | true => exact it_open d hd hrm w base rb a n cap ys L nv k fin ex hA hkf hfn
  | false => exact it_shut d hd hrm w base rb a n cap ys L nv k fin ex hA hkf hfn
theorem rm_step (d : Nat) (hd : d ≤ 4) (hrm : d + 1 ≤ 4 → RmC (d + 1)) : RmC d := by
  intro w base rb a n cap ys L nv k fin opn ex hA hkf hfn
  have hel := el_step d (it_step d hd hrm)
  cases opn with
  | true => exact rm_open d hel w base rb a n cap ys L nv k fin ex hA hkf hfn
  | false => exact rm_shut d hel w base rb a n cap ys L nv k fin ex hA hkf hfn
theorem rm_zero : RmC 0 := rm_step 0 (by decide) fun _ => rm_step 1 (by decide) fun _ => rm_step 2 (by decide) fun _ => rm_step 3 (by decide) fun _ => rm_step 4 (by decide) fun h => absurd h (by decide)
end Go.Proofs.YtoikdpjjcnmgeaaGreatDoor
end

section
/-
  DERIVED. Decode: the document's.
-/
namespace Go.Proofs.YtoikdpjjcnmgeaaGreatDoor
open Go Go.Proofs Go.RowKit
open Wk (Nd nds)
open Go.Sort

set_option maxRecDepth 100000 in
theorem syn_y (w : World) (x : Bool) : Calls Tryz.prog 35 #[.int .i64 (if x = true then 2 else 1)] w fun e w' => e = .returned (.bool true) ∧ w = w' := by
  cases x
  · show Calls Tryz.prog 35 #[.int .i64 1] w _
    go_enter Tryz.func35, Tryz.ntmps35
    go_wp2
    go_ret
    exact ⟨rfl, rfl⟩
  · show Calls Tryz.prog 35 #[.int .i64 2] w _
    go_enter Tryz.func35, Tryz.ntmps35
    go_wp2
    go_ret
    exact ⟨rfl, rfl⟩
set_option maxRecDepth 100000 in
theorem syn_n (w : World) (s : Int) (h : s ≠ 1 ∧ s ≠ 2) : Calls Tryz.prog 35 #[.int .i64 s] w fun e w' => e = .returned (.bool false) ∧ w = w' := by
  have b1 : (s == 1) = false := beq_eq_false_iff_ne.2 h.1
  have b2 : (s == 2) = false := beq_eq_false_iff_ne.2 h.2
  clear h
  go_enter Tryz.func35, Tryz.ntmps35
  go_wp2
  go_ret
  exact ⟨rfl, rfl⟩
/-- What the document's Decode tells. -/
def RdR (base : Nat) (w' : World) (s : Int) (ys : List UInt8) (nv vf : Value) : Prop :=
  (∃ a c g, ErrD s ys a c ∧ c ≠ 0 ∧ nv = .slice none 0 0 ∧ vf = .agg #[.slice (some ⟨g, 0, none⟩) 1 1, .int .i64 (c : Int)] ∧ LkAt w' g [(dsB, (a : Int))]) ∨ (∃ M, OkD s ys M ∧ vf = .agg #[.slice none 0 0, .int .i64 0] ∧ w'.ownsRow base 54 4 nv M.length (nds M))
def RdcP (w : World) (s : Int) (ys : List UInt8) (e : Ending) (w' : World) : Prop := ∃ nv vf, e = .returned (.tuple #[nv, vf]) ∧ Hid (RdR w.heap.size w' s ys nv vf) ∧ Hid (Below w.heap.size w w')
/-- A fault's place in memory: two cells. -/
structure F2 (W : World) (g : Nat) : Prop where
  c0 : W.cell? ⟨g, 0, none⟩ = some (.slice none 0 0)
  c1 : W.cell? ⟨g, 1, none⟩ = some (.int .i64 0)
  fz : ∀ i, W.frozen? ⟨g, i, none⟩ = false
theorem F2.on {W W' : World} {g : Nat} (h : F2 W g) (hb : Below W.heap.size W W') : F2 W' g :=
  ⟨(hb.cell (Rp.cell_lt h.c0)).trans h.c0, (hb.cell (Rp.cell_lt h.c1)).trans h.c1, fun i => (hb.frozen (p := ⟨g, i, none⟩) (show g < _ from Rp.cell_lt h.c0)).trans (h.fz i)⟩
theorem F2.keep {W W' : World} {g : Nat} (h : F2 W g) (e : W'.heap[g]? = W.heap[g]?) : F2 W' g := ⟨(cell_block e).trans h.c0, (cell_block e).trans h.c1, fun _ => (frozen_block e).trans (h.fz _)⟩
theorem F2.lk {W : World} {g q i : Nat} {a : Int} {u : Value} (h : F2 W q) (hl : LkAt W g [(dsB, a)]) : LkAt (W.setCell ⟨q, i, none⟩ u) g [(dsB, a)] := by
  refine hl.off (fun e => ?_) u
  have e1 := (hl 0 (by simp)).1
  rw [← e, show (0 * 2 : Nat) = 0 from rfl, h.c0] at e1
  cases e1
/-- Such a place is written. -/
theorem F2.set {W : World} {q : Nat} (h : F2 W q) (x y : Value) : ((W.setCell ⟨q, 0, none⟩ x).setCell ⟨q, 1, none⟩ y).cell? ⟨q, 0, none⟩ = some x ∧ ((W.setCell ⟨q, 0, none⟩ x).setCell ⟨q, 1, none⟩ y).cell? ⟨q, 1, none⟩ = some y :=
  ⟨(Rp.cell_set_ne (by decide)).trans (Rp.cell_set_eq h.c0), Rp.cell_set_eq ((Rp.cell_set_ne (by decide)).trans h.c1)⟩
theorem lk_off2 {W : World} {g q : Nat} {a : Int} {x y : Value} (h : F2 W q) (hl : LkAt W g [(dsB, a)]) : LkAt ((W.setCell ⟨q, 0, none⟩ x).setCell ⟨q, 1, none⟩ y) g [(dsB, a)] := by
  have hne : q ≠ g := fun e => by
    have e1 := (hl 0 (by simp)).1
    rw [← e, show (0 * 2 : Nat) = 0 from rfl, h.c0] at e1
    cases e1
  exact (hl.off hne x).off hne y
theorem below2 {B : Nat} {w W : World} {g : Nat} (h : Below B w W) (hg : B ≤ g) (a b : Value) : Below B w ((W.setCell ⟨g, 0, none⟩ a).setCell ⟨g, 1, none⟩ b) :=
  (h.setCell (p := ⟨g, 0, none⟩) hg a).setCell (p := ⟨g, 1, none⟩) hg b

set_option maxRecDepth 100000 in
set_option maxHeartbeats 4000000 in
theorem rdec_bad (w : World) (a : Option Addr) (n cap : Nat) (ys : List UInt8) (s : Int) (at_ c : Nat) (hn : n = ys.length) (hcase : (s ≠ 1 ∧ s ≠ 2 ∧ at_ = 0 ∧ c = 120) ∨ ((s = 1 ∨ s = 2) ∧ 1048576 < ys.length ∧ at_ = 1048576 ∧ c = 121)) : Calls Tryz.prog 11 #[.slice a n cap, .int .i64 s] w (RdcP w s ys) := by
  have HE : Hid (ErrD s ys at_ c) := by
    rcases hcase with h | h
    · exact .inl h
    · exact .inr (.inl h)
  have H0 : Hid (F2 (w.alloc (.cells #[.slice none 0 0, .int .i64 0] 32)) w.heap.size) := ⟨by simp, by simp, fun i => by simp⟩
  have hb0 : Below w.heap.size w (w.alloc (.cells #[.slice none 0 0, .int .i64 0] 32)) := (Below.refl _ _).alloc (Nat.le_refl _) _
  obtain ⟨W0, hW0⟩ : ∃ W0, w.alloc (.cells #[.slice none 0 0, .int .i64 0] 32) = W0 := ⟨_, rfl⟩
  rw [hW0] at H0 hb0
  rcases hcase with ⟨h1, h2, rfl, rfl⟩ | ⟨h1, h2, rfl, rfl⟩
  · have cS := syn_n W0 s ⟨h1, h2⟩
    clear h1 h2
    go_enter Tryz.func11, Tryz.ntmps11
    go_wp2_with (go_at_call 35; refine StopV.out ?_)
    refine ⟨Calls.mono cS ?_⟩
    rintro e Wx ⟨rfl, rfl⟩
    go_wp2_with (go_at_call 36; refine StopV.out ?_)
    refine ⟨Calls.mono (newD_any 120 0 _) ?_⟩
    rintro e W1 ⟨g, rfl, hl, hg, hb1⟩
    have H1 : Hid (F2 W1 w.heap.size) := H0.out.on hb1.out
    have e0 := H1.out.c0
    have e1 := H1.out.c1
    have ef := H1.out.fz
    obtain ⟨u0, u1⟩ := H1.out.set (.slice (some ⟨g, 0, none⟩) 1 1) (.int .i64 120)
    go_wp2
    refine bodyPost_ret (v := .tuple #[.slice none 0 0, .agg #[.slice (some ⟨g, 0, none⟩) 1 1, .int .i64 120]]) (by simp only [results, Tryz.results11]; simp [go_sem, u0, u1]) rfl ⟨_, _, rfl, .inl ⟨0, 120, g, HE.out, by decide, rfl, rfl, lk_off2 H1.out hl.out⟩, below2 (hb0.trans (hb1.out.mono hb0.size)) (Nat.le_refl _) _ _⟩
  · have cS : Calls Tryz.prog 35 #[.int .i64 s] W0 fun e w' => e = .returned (.bool true) ∧ W0 = w' := by
      rcases h1 with rfl | rfl
      · exact syn_y W0 false
      · exact syn_y W0 true
    have bn : (1048576 : Int) < (n : Int) := by omega
    clear h1 h2 hn
    go_enter Tryz.func11, Tryz.ntmps11
    go_wp2_with (go_at_call 35; refine StopV.out ?_)
    refine ⟨Calls.mono cS ?_⟩
    rintro e Wx ⟨rfl, rfl⟩
    go_wp2_with (go_at_call 36; refine StopV.out ?_)
    refine ⟨Calls.mono (newD_any 121 1048576 _) ?_⟩
    rintro e W1 ⟨g, rfl, hl, hg, hb1⟩
    have H1 : Hid (F2 W1 w.heap.size) := H0.out.on hb1.out
    have e0 := H1.out.c0
    have e1 := H1.out.c1
    have ef := H1.out.fz
    obtain ⟨u0, u1⟩ := H1.out.set (.slice (some ⟨g, 0, none⟩) 1 1) (.int .i64 121)
    go_wp2
    refine bodyPost_ret (v := .tuple #[.slice none 0 0, .agg #[.slice (some ⟨g, 0, none⟩) 1 1, .int .i64 121]]) (by simp only [results, Tryz.results11]; simp [go_sem, u0, u1]) rfl ⟨_, _, rfl, .inl ⟨1048576, 121, g, HE.out, by decide, rfl, rfl, lk_off2 H1.out hl.out⟩, below2 (hb0.trans (hb1.out.mono hb0.size)) (Nat.le_refl _) _ _⟩

set_option maxRecDepth 100000 in
set_option maxHeartbeats 4000000 in
theorem rdec_main (w : World) (a : Option Addr) (n cap : Nat) (ys : List UInt8) (x : Bool) (hV : BV w.heap.size w a n cap ys) : Calls Tryz.prog 11 #[.slice a n cap, .int .i64 (if x = true then 2 else 1)] w (RdcP w (if x = true then 2 else 1) ys) := by
  obtain ⟨W0, hW0⟩ : ∃ W0, w.alloc (.cells #[.slice none 0 0, .int .i64 0] 32) = W0 := ⟨_, rfl⟩
  have H0 : Hid (F2 W0 w.heap.size) := by rw [← hW0]; exact ⟨by simp, by simp, fun i => by simp⟩
  have HT0 : Hid (∃ cs, W0.heap[w.heap.size]? = some (.cells cs 32)) := by rw [← hW0]; exact ⟨_, Array.getElem?_push_size⟩
  have hb0 : Below w.heap.size w W0 := by rw [← hW0]; exact (Below.refl _ _).alloc (Nat.le_refl _) _
  obtain ⟨W1, hW1⟩ : ∃ W1, W0.alloc (.cells #[.slice a n cap, .slice none 0 0, .slice none 0 0, .int .i64 0] 79) = W1 := ⟨_, rfl⟩
  have hb1 : Below W0.heap.size W0 W1 := by rw [← hW1]; exact (Below.refl _ _).alloc (Nat.le_refl _) _
  have HD1 : Hid (DR w.heap.size W0.heap.size (.slice a n cap) W1 [] (.slice none 0 0) (.slice none 0 0) 0) := by
    rw [← hW1]
    exact ⟨by simp, by simp, by simp, by simp, fun i => by simp, ⟨_, Array.getElem?_push_size⟩, World.ownsRow_nil _ _ _ _, hb0.size⟩
  have hb01 : Below w.heap.size w W1 := hb0.trans (hb1.mono hb0.size)
  have HA1 : Hid (Ask w.heap.size W0.heap.size a n cap ys W1 [] (.slice none 0 0)) := ⟨hV.on hb01, HD1.out, by simp⟩
  have cR : Hid (Calls Tryz.prog 37 #[.pointer (some ⟨W0.heap.size, 0, none⟩), .int .i64 0, .int .i64 (n : Int), .bool false, .bool x, .int .i64 0] W1 (OutP (srcS ys) w.heap.size W0.heap.size a n cap ys W1 [] 0 (rsp n false x 0) 0 n)) := rm_zero W1 w.heap.size W0.heap.size a n cap ys [] (.slice none 0 0) 0 n false x HA1.out (Nat.zero_le _) (Nat.le_refl _)
  have hn := hV.s
  have hyl := hV.l
  have bn : ¬ (1048576 : Int) < (n : Int) := by omega
  have HYL : Hid (n = ys.length ∧ n ≤ 1048576) := ⟨hyl, hn⟩
  have cS := syn_y W0 x
  have H1 : Hid (F2 W1 w.heap.size) := H0.out.on hb1
  have HT1 : Hid (∃ cs, W1.heap[w.heap.size]? = some (.cells cs 32)) := Below.ty hb1 HT0.out
  have HS : Hid (((if x = true then 2 else 1 : Int) = 1 ∨ (if x = true then 2 else 1 : Int) = 2) ∧ decide ((if x = true then 2 else 1 : Int) = 2) = x) := by
    cases x
    · exact ⟨.inl rfl, rfl⟩
    · exact ⟨.inr rfl, rfl⟩
  have bs : ((if x = true then 2 else 1 : Int) == 2) = x := by cases x <;> rfl
  obtain ⟨s, hs⟩ : ∃ s : Int, (if x = true then 2 else 1 : Int) = s := ⟨_, rfl⟩
  rw [hs] at HS bs cS ⊢
  have HNE : Hid (w.heap.size ≤ W0.heap.size) := hb0.size
  clear hV hs hyl hn
  go_enter Tryz.func11, Tryz.ntmps11
  go_wp2_with (go_at_call 35; refine StopV.out ?_)
  refine ⟨Calls.mono cS ?_⟩
  rintro e Wx ⟨rfl, rfl⟩
  go_wp2_with (go_at_call 37; refine StopV.out ?_)
  refine ⟨Calls.mono cR.out ?_⟩
  rintro e W2 ⟨k', cnt, rfl, hb2, hk2, ho⟩
  have HB2 : Hid (Below w.heap.size w W2) := hb01.trans hb2.out
  have H2 : Hid (F2 W2 w.heap.size) := by
    obtain ⟨cs, e⟩ := HT1.out
    exact H1.out.keep (hk2.out _ cs 32 e (by decide) (by decide))
  have HT2 : Hid (∃ cs, W2.heap[w.heap.size]? = some (.cells cs 32)) := by
    obtain ⟨cs, e⟩ := HT1.out
    exact ⟨cs, (hk2.out _ cs 32 e (by decide) (by decide)).trans e⟩
  clear cS hb2 hk2 cR
  rcases ho with ⟨z, c, hbad, hel⟩ | ⟨X, nv2, hA2, -, -, -, hel⟩
  · obtain ⟨L6, nv6, ⟨g6, hD6, hl6⟩, hc6, -⟩ := hbad
    have HEND : Hid (ErrD s ys z c) := .inr (.inr ⟨HS.out.1, by rw [← HYL.out.1]; exact HYL.out.2, by rw [HS.out.2, ← HYL.out.1]; exact hel [] none [] rfl (fun i e => nomatch e) rfl⟩)
    have hcI : (c : Int) ≠ 0 := by omega
    have e2 := hD6.c2
    have e3 := hD6.c3
    have HL6 : Hid (LkAt W2 g6 [(dsB, (z : Int))]) := hl6
    have HD6 : Hid (DR w.heap.size W0.heap.size (.slice a n cap) W2 L6 nv6 (.slice (some ⟨g6, 0, none⟩) 1 1) (c : Int)) := hD6
    have HCI : Hid ((c : Int) ≠ 0) := hcI
    clear hD6 hl6 hc6 hel hcI
    go_wp2_with (go_at_call 26; refine StopV.out ?_)
    refine ⟨Calls.mono (any_bad _ g6 1 (c : Int) HCI.out) ?_⟩
    rintro e W3 ⟨rfl, hb3⟩
    have H3 : Hid (F2 W3 w.heap.size) := H2.out.on hb3
    have HD3 := HD6.out.on hb3
    have HL3 : Hid (LkAt W3 g6 [(dsB, (z : Int))]) := HL6.out.on hb3
    have HB3 : Hid (Below w.heap.size w W3) := HB2.out.trans (hb3.mono HB2.out.size)
    have d2 := HD3.c2
    have d3 := HD3.c3
    have e0 := H3.out.c0
    have e1 := H3.out.c1
    have ef := H3.out.fz
    obtain ⟨u0, u1⟩ := H3.out.set (.slice (some ⟨g6, 0, none⟩) 1 1) (.int .i64 (c : Int))
    have u2 : (W3.setCell ⟨w.heap.size, 0, none⟩ (.slice (some ⟨g6, 0, none⟩) 1 1)).cell? ⟨w.heap.size, 0, none⟩ = some (.slice (some ⟨g6, 0, none⟩) 1 1) := Rp.cell_set_eq e0
    clear HD3 hb3 e2 e3
    go_wp2_with fail
    go_region
    go_wp2
    refine bodyPost_ret (v := .tuple #[.slice none 0 0, .agg #[.slice (some ⟨g6, 0, none⟩) 1 1, .int .i64 (c : Int)]]) (by simp only [results, Tryz.results11]; simp [go_sem, u1, u2]) rfl ⟨_, _, rfl, .inl ⟨z, c, g6, HEND.out, fun e => HCI.out (by rw [e]; rfl), rfl, rfl, (lk_off2 H3.out HL3.out).on ((Below.refl _ _).drew)⟩, (below2 HB3.out (Nat.le_refl _) _ _).trans ((Below.refl _ _).drew)⟩
  · have e2 := hA2.dr.c2
    have e3 := hA2.dr.c3
    have HEND : Hid (OkD s ys X) := ⟨HS.out.1, by rw [← HYL.out.1]; exact HYL.out.2, by
      rw [HS.out.2, ← HYL.out.1]
      exact hel [] none [] _ rfl (fun i e => nomatch e) rfl (by show Ends _ _ ([] ++ X) [] (.ok X); exact .done _ _)⟩
    have HA2 : Hid (Ask w.heap.size W0.heap.size a n cap ys W2 X nv2) := hA2
    clear hA2 hel
    go_wp2_with (go_at_call 26; refine StopV.out ?_)
    refine ⟨Calls.mono (any_no _) ?_⟩
    rintro e W3 ⟨rfl, hb3⟩
    have H3 : Hid (F2 W3 w.heap.size) := H2.out.on hb3
    have HA3 : Hid (Ask w.heap.size W0.heap.size a n cap ys W3 X nv2) := HA2.out.on hb3
    have HB3 : Hid (Below w.heap.size w W3) := HB2.out.trans (hb3.mono HB2.out.size)
    have q1 := HA3.out.dr.c1
    have HT3 : Hid (∃ cs, W3.heap[w.heap.size]? = some (.cells cs 32)) := Below.ty hb3 HT2.out
    have hws : w.heap.size < W0.heap.size := Rp.cell_lt H0.out.c0
    have hn1 : W0.heap.size ≠ w.heap.size := by omega
    have hn2 : w.heap.size ≠ W0.heap.size := by omega
    clear hb3 e2 e3 hws
    go_wp2_with fail
    go_region_held3 (fun w' => w'.cell? ⟨W0.heap.size, 1, none⟩ = some nv2) (first | (go_keep; done) | exact p1) (first | (go_at_call 38; refine Calls.mono (Rp.none_any _) ?_; rintro e W4 ⟨rfl, hb4⟩; have hX4 : Below W3.heap.size W3 W4 := ((Below.refl _ W3).drew).trans hb4; have p1 := (hX4.cell (Rp.cell_lt q1)).trans q1; have H4 : F2 W4 w.heap.size := H3.out.on hX4; have e0 := H4.c0; have e1 := H4.c1; have ef := H4.fz))
    obtain ⟨u0, u1⟩ := H4.set (.slice none 0 0) (.int .i64 0)
    have HO : Hid ((((W4.setCell ⟨w.heap.size, 0, none⟩ (.slice none 0 0)).setCell ⟨w.heap.size, 1, none⟩ (.int .i64 0)).ownsRow w.heap.size 54 4 nv2 X.length (nds X))) := by
      have ht : ∃ cs, W4.heap[w.heap.size]? = some (.cells cs 32) := Below.ty hX4 HT3.out
      have hk : ∀ (Y : World) (i : Nat) (u : Value), (∃ cs, Y.heap[w.heap.size]? = some (Obj.cells cs 32)) → ∀ (g : Nat) (cur : Array Value), Y.heap[g]? = some (Obj.cells cur 54) → (Y.setCell ⟨w.heap.size, i, none⟩ u).heap[g]? = Y.heap[g]? := fun Y i u hY g cur hg => heap_setCell_other Y ⟨w.heap.size, i, none⟩ g u (fun e => by
        have e : g = w.heap.size := e
        obtain ⟨cs, hY⟩ := hY
        rw [e, hY] at hg
        cases hg)
      exact own_same (own_same (Wk.ownsRow_below HA3.out.dr.nd hX4 (Nat.le_refl _)) (hk W4 0 _ ht)) (hk _ 1 _ (ty_set ht))
    go_wp2
    refine bodyPost_ret (v := .tuple #[nv2, .agg #[.slice none 0 0, .int .i64 0]]) (by simp only [results, Tryz.results11]; simp [go_sem, u0, u1]) rfl ⟨_, _, rfl, .inr ⟨X, HEND.out, rfl, HO.out⟩, below2 (HB3.out.trans (hX4.mono HB3.out.size)) (Nat.le_refl _) _ _⟩
theorem rdec_any (w : World) (a : Option Addr) (n cap : Nat) (ys : List UInt8) (s : Int) (hV : BA w.heap.size w a n cap ys) : Calls Tryz.prog 11 #[.slice a n cap, .int .i64 s] w (RdcP w s ys) := by
  have hl := hV.l
  by_cases h : s = 1 ∨ s = 2
  · by_cases hn : 1048576 < n
    · exact rdec_bad w a n cap ys s 1048576 121 hl (.inr ⟨h, by rw [← hl]; exact hn, rfl, rfl⟩)
    · have hV2 : BV w.heap.size w a n cap ys := ⟨hl, hV.c, by omega, hV.m⟩
      rcases h with rfl | rfl
      · exact rdec_main w a n cap ys false hV2
      · exact rdec_main w a n cap ys true hV2
  · exact rdec_bad w a n cap ys s 0 120 hl (.inl ⟨fun e => h (.inl e), fun e => h (.inr e), rfl, rfl⟩)
theorem errD_one {s : Int} {ys : List UInt8} {a c a' c' : Nat} (h : ErrD s ys a c) (h' : ErrD s ys a' c') : a = a' ∧ c = c' := by
  rcases h with ⟨h1, h2, rfl, rfl⟩ | ⟨h1, h2, rfl, rfl⟩ | ⟨h1, h2, h3⟩ <;> rcases h' with ⟨g1, g2, rfl, rfl⟩ | ⟨g1, g2, rfl, rfl⟩ | ⟨g1, g2, g3⟩
  · exact ⟨rfl, rfl⟩
  · rcases g1 with g | g <;> contradiction
  · rcases g1 with g | g <;> contradiction
  · rcases h1 with g | g <;> contradiction
  · exact ⟨rfl, rfl⟩
  · omega
  · rcases h1 with g | g <;> contradiction
  · omega
  · have := h3.one g3
    cases this
    exact ⟨rfl, rfl⟩
theorem okD_one {s : Int} {ys : List UInt8} {M M' : List Nd} (h : OkD s ys M) (h' : OkD s ys M') : M = M' := by
  have := h.2.2.one h'.2.2
  cases this
  rfl
theorem errD_ok {s : Int} {ys : List UInt8} {a c : Nat} {M : List Nd} (h : ErrD s ys a c) (h' : OkD s ys M) : False := by
  obtain ⟨g1, g2, g3⟩ := h'
  rcases h with ⟨h1, h2, _⟩ | ⟨_, h2, _⟩ | ⟨_, _, h3⟩
  · rcases g1 with g | g <;> contradiction
  · omega
  · have := h3.one g3
    cases this
end Go.Proofs.YtoikdpjjcnmgeaaGreatDoor
end
