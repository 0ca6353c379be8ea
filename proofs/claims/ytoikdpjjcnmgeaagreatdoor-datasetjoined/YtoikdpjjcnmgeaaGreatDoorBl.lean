import Derived.Test.YtoikdpjjcnmgeaaGreatDoorVs
import Derived.Recover
import Derived.Defers
import Derived.Test.YtoikdpjjcnmgeaaGreatDoorQc
import Derived.Test.YtoikdpjjcnmgeaaGreatDoorBk
import Derived.WideMake
section
/-
  DERIVED. All that a reader reads; Decode: the program's.
-/
namespace Go.Proofs.YtoikdpjjcnmgeaaGreatDoor
open Go Go.Proofs Go.RowKit
open Wk (Nd nds)
open Go.Sort

set_option maxRecDepth 100000 in
theorem read_any (w : World) (base rb : Nat) (a : Option Addr) (n cap : Nat) (ys : List UInt8) (x : Bool) (nv sv : Value) (hP : PR base rb (.slice a n cap) w 0 [] [topS n x] nv sv) (hV : BV base w a n cap ys) :
    Calls Tryz.prog 34 #[.pointer (some ⟨rb, 0, none⟩)] w (RdP base (srcS ys) n x w) := by
  have hI : PI n 0 [] [topS n x] := ⟨⟨Nat.zero_le _, trivial⟩, fun y hy => by rw [List.mem_singleton.1 hy]; exact Nat.le_refl _, by simp, MOk.nil, fun y hy p e => by obtain rfl := List.mem_singleton.1 hy; exact (nomatch e), fun y hy => by rw [List.mem_singleton.1 hy]; show (0 : Nat) < _; decide⟩
  have hJ : ∀ A, (∃ t, A = frR rb t) → ∃ m', m' < 2 * n + 2 ∧ JR base rb a n cap ys x w 0 m' A w := fun A hA => JR.mk hA hP hI (fun _ h => h) (Below.refl _ _) (by simp)
  go_enter Tryz.func34, Tryz.ntmps34
  go_wp2
  refine wp_scope_many (JR base rb a n cap ys x w) ?_ (fun l m A W h => by
    obtain rfl : l = 0 := h.1
    obtain ⟨rest, hf, hw⟩ := read_round _ _ (by unfold Tryz.f34; rfl) base rb a n cap ys x w hV m A W h
    exact ⟨_, hf, skip_seq hw⟩)
  obtain ⟨m, -, hj⟩ := hJ _ (fr_ex rb _ _ _ _ _ _ _ _ _ _ _ _ _ _ _ _ _ _ _ _ _ _ _ _ _ _ _ _ _ _ _ _ _ _ _ _ _ _ _ _)
  obtain ⟨rest, hf, hw⟩ := read_round _ _ (by unfold Tryz.f34; rfl) base rb a n cap ys x w hV m _ w hj
  refine wp_seq (wp_label ?_)
  cases hf
  exact Code.wp_mono (fun e A W h => by
    cases e with
    | goto l => obtain ⟨m', _, h'⟩ := h; exact ⟨m', h'⟩
    | normal => exact h
    | exit _ => exact h
    | ret => exact h
    | panic _ => exact h
    | outgrown => exact h) hw
end Go.Proofs.YtoikdpjjcnmgeaaGreatDoor
end

section
/-
  DERIVED. What Decode catches.
-/
namespace Go.Proofs.YtoikdpjjcnmgeaaGreatDoor
open Go Go.Proofs Go.RowKit
open Wk (Nd nds)
open Go.Sort

theorem assert_yes (q : Nat) (w : World) : (Instr.typeAssert (.iface 70 (.pointer (some ⟨q, 0, none⟩))) 20 70 true).run Tryz.prog w = .ok (.tuple #[.pointer (some ⟨q, 0, none⟩), .bool true]) w := by kernel_rfl
theorem assert_no (w : World) : (Instr.typeAssert .nilIface 20 70 true).run Tryz.prog w = .ok (.tuple #[.pointer none, .bool false]) w := by kernel_rfl
set_option maxRecDepth 100000 in
set_option maxHeartbeats 1000000 in
theorem catch_panicking (p4 p5 : Nat) (q : Nat) (older : List PanicEntry) (w : World) (u4 u5 : Value) (hc4 : w.cell? ⟨p4, 0, none⟩ = some u4) (hz4 : w.frozen? ⟨p4, 0, none⟩ = false) (hc5 : w.cell? ⟨p5, 0, none⟩ = some u5) (hz5 : w.frozen? ⟨p5, 0, none⟩ = false) (hne : p4 ≠ p5) :
    CallsD Tryz.prog 32 #[.pointer (some ⟨p4, 0, none⟩), .pointer (some ⟨p5, 0, none⟩)] (.panicking ({ v := .iface 70 (.pointer (some ⟨q, 0, none⟩)), recovered := false } :: older)) w fun e u' w' =>
      e = .returned (.tuple #[]) ∧ u' = .panicking ({ v := .iface 70 (.pointer (some ⟨q, 0, none⟩)), recovered := true } :: older) ∧ w' = (w.setCell ⟨p4, 0, none⟩ (.slice none 0 0)).setCell ⟨p5, 0, none⟩ (.iface 70 (.pointer (some ⟨q, 0, none⟩))) := by
  refine callsD_of_wpS Tryz.func32 rfl fun c₀ cs hu => ?_
  apply wpS_seq
  apply wpS_region
  have hta := assert_yes q
  simp [wpOpsS, go_sem, recoverD, hu, Tryz.ntmps32, Exit.thenS, hta]
  have hc5' : ∀ v, (w.setCell ⟨p4, 0, none⟩ v).cell? ⟨p5, 0, none⟩ = some u5 := fun v => (Rp.cell_set_off hne).trans hc5
  apply wpS_seq
  apply wpS_region
  simp [wpOpsS, go_sem, Exit.thenS]
  refine wpS_cond (t := true) (by simp [Act.eval, Array.replicate]) ?_
  simp only [if_true]
  apply wpS_region
  simp [wpOpsS, go_sem, hc4, hz4, hc5', hz5, bodyPostS, results, Tryz.results32]

set_option maxRecDepth 100000 in
set_option maxHeartbeats 1000000 in
theorem catch_idle (p4 p5 : Nat) (w : World) :
    CallsD Tryz.prog 32 #[.pointer (some ⟨p4, 0, none⟩), .pointer (some ⟨p5, 0, none⟩)] .returning w fun e u' w' => e = .returned (.tuple #[]) ∧ u' = .returning ∧ w' = w := by
  refine callsD_of_wpS Tryz.func32 rfl fun c₀ cs hu => ?_
  have hta := assert_no
  apply wpS_seq
  apply wpS_region
  simp [wpOpsS, go_sem, recoverD, hu, Tryz.ntmps32, Exit.thenS, hta]
  apply wpS_seq
  apply wpS_region
  simp [wpOpsS, go_sem, Exit.thenS]
  refine wpS_cond (t := false) (by simp [Act.eval, Array.replicate]) ?_
  simp only [Bool.false_eq_true, if_false]
  refine wpS_of_wp (wp_skip ?_)
  cases c₀
  simp_all [bodyPostS, results, Tryz.results32]
end Go.Proofs.YtoikdpjjcnmgeaaGreatDoor
end

section
/-
  DERIVED. Decode: the program's.
-/
namespace Go.Proofs.YtoikdpjjcnmgeaaGreatDoor
open Go Go.Proofs Go.RowKit
open Wk (Nd nds)
open Go.Sort

set_option maxRecDepth 100000 in
theorem syn_ok (w : World) (x : Bool) : Calls Tryz.prog 30 #[.int .i64 (if x = true then 2 else 1)] w fun e w' => e = .returned (.tuple #[.iface (exI x) (.agg #[]), .nilIface]) ∧ w = w' := by
  cases x
  · show Calls Tryz.prog 30 #[.int .i64 1] w _
    go_enter Tryz.func30, Tryz.ntmps30
    go_wp2
    exact bodyPost_ret (v := .tuple #[.iface 107 (.agg #[]), .nilIface]) (by simp [results, Tryz.results30, go_sem]) rfl ⟨rfl, rfl⟩
  · show Calls Tryz.prog 30 #[.int .i64 2] w _
    go_enter Tryz.func30, Tryz.ntmps30
    go_wp2
    exact bodyPost_ret (v := .tuple #[.iface 108 (.agg #[]), .nilIface]) (by simp [results, Tryz.results30, go_sem]) rfl ⟨rfl, rfl⟩
set_option maxRecDepth 100000 in
theorem syn_no (w : World) (s : Int) (h : s ≠ 1 ∧ s ≠ 2) : Calls Tryz.prog 30 #[.int .i64 s] w fun e w' => ∃ q, e = .returned (.tuple #[.nilIface, .iface 70 (.pointer (some ⟨q, 0, none⟩))]) ∧ Hid (Chain w' [(dsB, 0)] 120 (.iface 70 (.pointer (some ⟨q, 0, none⟩)))) ∧ Hid (Below w.heap.size w w') := by
  have b1 : (s == 1) = false := beq_eq_false_iff_ne.2 h.1
  have b2 : (s == 2) = false := beq_eq_false_iff_ne.2 h.2
  have c := refuseD_any w 0 120
  clear h
  go_enter Tryz.func30, Tryz.ntmps30
  go_wp2_with (go_at_call 31; refine StopV.out ?_)
  refine ⟨Calls.mono c ?_⟩
  rintro e W1 ⟨q, rfl, hc, hb⟩
  go_wp2
  exact bodyPost_ret (v := .tuple #[.nilIface, .iface 70 (.pointer (some ⟨q, 0, none⟩))]) (by simp [results, Tryz.results30, go_sem]) rfl ⟨q, rfl, hc, hb⟩

/-- Decode refuses so. -/
def ErrD (s : Int) (ys : List UInt8) (a c : Nat) : Prop :=
  (s ≠ 1 ∧ s ≠ 2 ∧ a = 0 ∧ c = 120) ∨ ((s = 1 ∨ s = 2) ∧ 1048576 < ys.length ∧ a = 1048576 ∧ c = 121) ∨ ((s = 1 ∨ s = 2) ∧ ys.length ≤ 1048576 ∧ Ends (srcS ys) 0 [] [topS ys.length (decide (s = 2))] (.bad a c))
/-- Decode reads so. -/
def OkD (s : Int) (ys : List UInt8) (M : List Nd) : Prop := (s = 1 ∨ s = 2) ∧ ys.length ≤ 1048576 ∧ Ends (srcS ys) 0 [] [topS ys.length (decide (s = 2))] (.ok M)
/-- What Decode tells. -/
def DcR (base : Nat) (w' : World) (s : Int) (ys : List UInt8) (nv ve : Value) : Prop :=
  (∃ a c, ErrD s ys a c ∧ nv = .slice none 0 0 ∧ Chain w' [(dsB, (a : Int))] (c : Int) ve) ∨ (∃ M, OkD s ys M ∧ ve = .nilIface ∧ w'.ownsRow base 54 4 nv M.length (nds M) ∧ MOk M ∧ (M.length = 0 → nv = .slice none 0 0))
def DcP (w : World) (s : Int) (ys : List UInt8) (e : Ending) (w' : World) : Prop := ∃ nv ve, e = .returned (.tuple #[nv, ve]) ∧ Hid (DcR w.heap.size w' s ys nv ve) ∧ Hid (Below w.heap.size w w')

theorem chain_set {W : World} {p : Nat} {x : Lk} {c : Int} {ve u v : Value} (h : Chain W [x] c ve) (hp : W.cell? ⟨p, 0, none⟩ = some u) (hu : ∀ s, u ≠ .string s) : Chain (W.setCell ⟨p, 0, none⟩ v) [x] c ve := by
  obtain ⟨q, u', h1, h2, h3, h4, h5⟩ := h
  have hne : p ≠ q := fun e => by
    rw [e, h2] at hp
    cases hp
    exact hu _ rfl
  exact ⟨q, u', h1, (Rp.cell_set_off hne).trans h2, (Rp.cell_set_off hne).trans h3, (Rp.cell_set_off hne).trans h4, h5⟩

set_option maxRecDepth 100000 in
set_option maxHeartbeats 2000000 in
theorem dec_no (w : World) (a : Option Addr) (n cap : Nat) (ys : List UInt8) (s : Int) (h : s ≠ 1 ∧ s ≠ 2) : Calls Tryz.prog 10 #[.slice a n cap, .int .i64 s] w (DcP w s ys) := by
  have hmf : ∀ (fn : Fn) (first cap : Array Value) (w : World), (Instr.makeFunc fn first cap).run Tryz.prog w = .ok (.func fn first cap) w := fun _ _ _ _ => rfl
  have cS := syn_no ((w.alloc (.cells #[.slice none 0 0] 25)).alloc (.cells #[.nilIface] 27)) s h
  have HS : Hid _ := h
  clear h
  go_enter_defers Tryz.func10, Tryz.ntmps10
  go_wp2_with (go_at_call 30; refine StopV.out ?_)
  refine ⟨Calls.mono cS ?_⟩
  rintro e W1 ⟨q, rfl, hc, hb⟩
  have c4 : W1.cell? ⟨w.heap.size, 0, none⟩ = some (.slice none 0 0) := (hb.out.cell (p := ⟨w.heap.size, 0, none⟩) (by simp; omega)).trans (by simp)
  have c5 : W1.cell? ⟨w.heap.size + 1, 0, none⟩ = some .nilIface := (hb.out.cell (p := ⟨w.heap.size + 1, 0, none⟩) (by simp)).trans (by simp)
  have z4 : W1.frozen? ⟨w.heap.size, 0, none⟩ = false := (hb.out.frozen (p := ⟨w.heap.size, 0, none⟩) (by simp; omega)).trans (by simp)
  have z5 : W1.frozen? ⟨w.heap.size + 1, 0, none⟩ = false := (hb.out.frozen (p := ⟨w.heap.size + 1, 0, none⟩) (by simp)).trans (by simp)
  have c51 : ∀ v, (W1.setCell ⟨w.heap.size + 1, 0, none⟩ v).cell? ⟨w.heap.size, 0, none⟩ = some (.slice none 0 0) := fun v => (Rp.cell_set_off (by omega)).trans c4
  have c52 : ∀ v, (W1.setCell ⟨w.heap.size + 1, 0, none⟩ v).cell? ⟨w.heap.size + 1, 0, none⟩ = some v := fun v => Rp.cell_set_eq c5
  have n1 : w.heap.size ≠ w.heap.size + 1 := by omega
  have n2 : w.heap.size + 1 ≠ w.heap.size := by omega
  go_wp2
  go_region
  go_wp2
  obtain ⟨W9, hW9⟩ : ∃ W9, (((W1.setCell ⟨w.heap.size + 1, 0, none⟩ (.iface 70 (.pointer (some ⟨q, 0, none⟩)))).setCell ⟨w.heap.size, 0, none⟩ (.slice none 0 0)).setCell ⟨w.heap.size + 1, 0, none⟩ (.iface 70 (.pointer (some ⟨q, 0, none⟩)))).drew = W9 := ⟨_, rfl⟩
  have HCH : Hid (Chain W9 [(dsB, 0)] 120 (.iface 70 (.pointer (some ⟨q, 0, none⟩)))) := by
    rw [← hW9]
    refine Chain.on ((Below.refl _ _).drew) (chain_set (u := .iface 70 (.pointer (some ⟨q, 0, none⟩))) (chain_set (u := .slice none 0 0) (chain_set (u := .nilIface) hc.out c5 (fun _ h => nomatch h)) (c51 _) (fun _ h => nomatch h)) ?_ (fun _ h => nomatch h))
    exact (Rp.cell_set_off n1).trans (c52 _)
  have HBL : Hid (Below w.heap.size w W9) := by
    rw [← hW9]
    exact ((((((((Below.refl _ w).alloc (Nat.le_refl _) _).alloc (by simp) _).trans (hb.out.mono (by simp; omega))).setCell (p := ⟨w.heap.size + 1, 0, none⟩) (Nat.le_succ _) _).setCell (p := ⟨w.heap.size, 0, none⟩) (Nat.le_refl _) _).setCell (p := ⟨w.heap.size + 1, 0, none⟩) (Nat.le_succ _) _).drew)
  have u4 : W9.cell? ⟨w.heap.size, 0, none⟩ = some (.slice none 0 0) := by
    rw [← hW9]
    exact (Rp.cell_set_off n2).trans (Rp.cell_set_eq (c51 _))
  have u5 : W9.cell? ⟨w.heap.size + 1, 0, none⟩ = some (.iface 70 (.pointer (some ⟨q, 0, none⟩))) := by
    rw [← hW9]
    exact Rp.cell_set_eq ((Rp.cell_set_off n1).trans (c52 _))
  rw [hW9]
  simp [bodyPostD, Leaves, results, Tryz.results10, go_sem, u4, u5]
  exact ⟨_, _, rfl, .inl ⟨0, 120, .inl ⟨HS.out.1, HS.out.2, rfl, rfl⟩, rfl, HCH.out⟩, HBL⟩
theorem own_low {W : World} {base base' : Nat} {e : TypeId} {z : Nat} {v : Value} {n : Nat} {xs : List Value} (h : W.ownsRow base e z v n xs) (hb : base' ≤ base) : W.ownsRow base' e z v n xs :=
  ⟨h.1, h.2.imp id (fun ⟨g, cap, cur, h1, h2, h3⟩ => ⟨g, cap, cur, h1, Nat.le_trans hb h2, h3⟩)⟩
theorem BV.up {base base' : Nat} {W W' : World} {a : Option Addr} {n cap : Nat} {ys : List UInt8} (h : BV base W a n cap ys) (hb : Below base W W') (hl : base ≤ base') : BV base' W' a n cap ys :=
  ⟨h.l, h.c, h.s, fun k hk => by obtain ⟨b, off, e, h1, h2⟩ := h.m k hk; exact ⟨b, off, e, Nat.lt_of_lt_of_le h1 hl, (hb.cell (p := ⟨b, off + k, none⟩) h1).trans h2⟩⟩

set_option maxRecDepth 100000 in
set_option maxHeartbeats 2000000 in
theorem dec_long (w : World) (a : Option Addr) (n cap : Nat) (ys : List UInt8) (x : Bool) (hn : n = ys.length) (hl : 1048576 < n) (h63 : n ≤ 9223372036854775807) : Calls Tryz.prog 10 #[.slice a n cap, .int .i64 (if x = true then 2 else 1)] w (DcP w (if x = true then 2 else 1) ys) := by
  have hmf : ∀ (fn : Fn) (first cap : Array Value) (w : World), (Instr.makeFunc fn first cap).run Tryz.prog w = .ok (.func fn first cap) w := fun _ _ _ _ => rfl
  have cS := syn_ok ((w.alloc (.cells #[.slice none 0 0] 25)).alloc (.cells #[.nilIface] 27)) x
  have HN : Hid (1048576 < ys.length) := by rw [← hn]; exact hl
  have b1 : decide ((1048576 : Int) < (n : Int)) = true := decide_eq_true (by omega)
  have b2 : decide (1048576 < n) = true := decide_eq_true hl
  obtain ⟨s, hs⟩ : ∃ s : Int, (if x = true then 2 else 1) = s := ⟨_, rfl⟩
  have HS : Hid (s = 1 ∨ s = 2) := by cases x; exact .inl hs.symm; exact .inr hs.symm
  rw [hs] at cS ⊢
  obtain ⟨X, hX⟩ : ∃ X, ((w.alloc (.cells #[.slice none 0 0] 25)).alloc (.cells #[.nilIface] 27)).setCell ⟨w.heap.size + 1, 0, none⟩ .nilIface = X := ⟨_, rfl⟩
  have cR := refuseD_any X 1048576 121
  have HBX : Hid (Below w.heap.size w X) := by rw [← hX]; exact (((Below.refl _ w).alloc (Nat.le_refl _) _).alloc (by simp) _).setCell (p := ⟨w.heap.size + 1, 0, none⟩) (Nat.le_succ _) _
  have x4 : X.cell? ⟨w.heap.size, 0, none⟩ = some (.slice none 0 0) := by rw [← hX]; exact (Rp.cell_set_off (by omega)).trans (by simp)
  have x5 : X.cell? ⟨w.heap.size + 1, 0, none⟩ = some .nilIface := by rw [← hX]; exact Rp.cell_set_eq (u := .nilIface) (by simp)
  have y4 : X.frozen? ⟨w.heap.size, 0, none⟩ = false := by rw [← hX]; simp
  have y5 : X.frozen? ⟨w.heap.size + 1, 0, none⟩ = false := by rw [← hX]; simp
  clear hs hl hn h63
  go_enter_defers Tryz.func10, Tryz.ntmps10
  go_wp2_with (go_at_call 30; refine StopV.out ?_)
  refine ⟨Calls.mono cS ?_⟩
  rintro e W1 ⟨rfl, rfl⟩
  clear cS
  go_wp2_with (go_at_call 31; refine StopV.out ?_)
  refine ⟨Calls.mono cR ?_⟩
  rintro e W1 ⟨q, rfl, hc, hb⟩
  have c4 := (hb.out.cell (Rp.cell_lt x4)).trans x4
  have c5 := (hb.out.cell (Rp.cell_lt x5)).trans x5
  have z4 : W1.frozen? ⟨w.heap.size, 0, none⟩ = false := (hb.out.frozen (p := ⟨w.heap.size, 0, none⟩) (Rp.cell_lt x4)).trans y4
  have z5 : W1.frozen? ⟨w.heap.size + 1, 0, none⟩ = false := (hb.out.frozen (p := ⟨w.heap.size + 1, 0, none⟩) (Rp.cell_lt x5)).trans y5
  have n1 : w.heap.size ≠ w.heap.size + 1 := by omega
  have n2 : w.heap.size + 1 ≠ w.heap.size := by omega
  have c51 : ∀ v, (W1.setCell ⟨w.heap.size, 0, none⟩ v).cell? ⟨w.heap.size + 1, 0, none⟩ = some .nilIface := fun v => (Rp.cell_set_off n1).trans c5
  obtain ⟨W9, hW9⟩ : ∃ W9, (W1.setCell ⟨w.heap.size, 0, none⟩ (.slice none 0 0)).setCell ⟨w.heap.size + 1, 0, none⟩ (.iface 70 (.pointer (some ⟨q, 0, none⟩))) = W9 := ⟨_, rfl⟩
  have HCH : Hid (Chain W9 [(dsB, 1048576)] 121 (.iface 70 (.pointer (some ⟨q, 0, none⟩)))) := by
    rw [← hW9]
    exact chain_set (u := .nilIface) (chain_set (u := .slice none 0 0) hc.out c4 (fun _ h => nomatch h)) (c51 _) (fun _ h => nomatch h)
  have HBL : Hid (Below w.heap.size w W9) := by
    rw [← hW9]
    exact ((HBX.out.trans (hb.out.mono HBX.out.size)).setCell (p := ⟨w.heap.size, 0, none⟩) (Nat.le_refl _) _).setCell (p := ⟨w.heap.size + 1, 0, none⟩) (Nat.le_succ _) _
  have u4 : W9.cell? ⟨w.heap.size, 0, none⟩ = some (.slice none 0 0) := by rw [← hW9]; exact (Rp.cell_set_off n2).trans (Rp.cell_set_eq c4)
  have u5 : W9.cell? ⟨w.heap.size + 1, 0, none⟩ = some (.iface 70 (.pointer (some ⟨q, 0, none⟩))) := by rw [← hW9]; exact Rp.cell_set_eq (c51 _)
  go_wp2
  simp [bodyPostD, Leaves, results, Tryz.results10, go_sem, u4, u5]
  exact ⟨_, _, rfl, .inl ⟨1048576, 121, .inr (.inl ⟨HS.out, HN.out, rfl, rfl⟩), rfl, HCH.out⟩, HBL⟩
end Go.Proofs.YtoikdpjjcnmgeaaGreatDoor
end

section
/-
  DERIVED. What Encode tells is read by Decode. Plain functions.
-/
namespace Go.Proofs.YtoikdpjjcnmgeaaGreatDoor
open Go Go.Proofs Go.RowKit
open Wk (Nd goN)

theorem err_ok {s : Int} {L : List Nd} (h : errOf s L = none) : (s = 1 ∨ s = 2) ∧ (res L).2 = true ∧ (encS s).szP L ≤ 1048576 ∧ outB s L = (encS s).wP L := by
  have h0 := h
  unfold errOf at h
  split at h
  · cases h
  · rename_i h1
    split at h
    · cases h
    · rename_i h2
      split at h
      · cases h
      · rename_i h3
        refine ⟨by omega, by simpa using h2, by omega, ?_⟩
        unfold outB
        rw [h0]
        rfl
/-- What is laid down is read again. -/
theorem back_ok {s : Int} {L : List Nd} (h : errOf s L = none) (hT : TagsOk L) : OkD s (outB s L) (L.map (bkN (decide (s = 2)))) := by
  obtain ⟨h1, h2, h3, h4⟩ := err_ok h
  obtain ⟨c, hw⟩ := run_wt0 elem_n item_n L.length L 0 0 0 (Nat.le_refl _) h2
  have hwf := wt_wf _ _ _ _ _ _ hw
  have hl := (res_ok h2).1
  obtain ⟨e1, e2⟩ := Enc.same (fitX (decide (s = 2))) L.length false L hwf
  have hz : (outB s L).length = (encS s).szP L := by
    rw [h4]
    exact wr_len _ _ _ (Nat.le_refl _) (wf_good _ _ _ hwf)
  refine ⟨h1, by omega, ?_⟩
  obtain ⟨t2, hg⟩ := (back (decide (s = 2)) (outB s L) L.length false 0 0 c L (Nat.le_refl _) hw hT (Int.le_refl 0) 0 (outB s L).length 0 false (fun _ => rfl) ⟨[], by rw [List.drop_zero, List.append_nil, e2, h4]; rfl⟩ (by rw [e1, hz, Nat.zero_add]; exact Nat.le_refl _) (by omega) (by omega)).1 rfl
  refine hg [] none [] _ rfl (fun i e => nomatch e) rfl ?_
  refine .go (zs_end rfl ?_) (.done _ _)
  show 0 + (encOf (decide (s = 2))).szD L.length false L = (outB s L).length
  rw [e1, hz, Nat.zero_add]
  rfl
end Go.Proofs.YtoikdpjjcnmgeaaGreatDoor
end

section
/-
  DERIVED. The size and the bytes of a data set: the program's.
-/
namespace Go.Proofs.YtoikdpjjcnmgeaaGreatDoor
open Go Go.Proofs Go.RowKit
open Wk (Nd NV goN nxt)

theorem encS_I : encS 1 = encI := rfl
theorem encS_E : encS 2 = encE := rfl
/-- What Size tells. -/
def SzP (w : World) (s : Int) (L : List Nd) (e : Ending) (w' : World) : Prop := ∃ ve, e = .returned (.tuple #[.int .i64 (siz s L : Int), ve]) ∧ PErr w' ve (errOf s L) ∧ Below w.heap.size w w'

set_option maxRecDepth 100000 in
theorem size_no (w : World) (a : Option Addr) (n cap : Nat) (L : List Nd) (s : Int) (h : s ≠ 1 ∧ s ≠ 2) : Calls Tryz.prog 29 #[.slice a n cap, .int .i64 s] w (SzP w s L) := by
  have c := syntax_no w s h
  have HS : Hid (siz s L = 0 ∧ errOf s L = some ([(dsB, 0)], 120)) := ⟨by unfold siz; rw [err_bad h]; rfl, err_bad h⟩
  clear h
  go_enter Tryz.func29, Tryz.ntmps29
  go_wp2_with (go_at_call 30; refine StopB.out ?_)
  refine ⟨Calls.mono c ?_⟩
  rintro e W1 ⟨q, rfl, hc, hb⟩
  go_wp2
  refine bodyPost_ret (v := .tuple #[.int .i64 0, .iface 70 (.pointer (some ⟨q, 0, none⟩))]) (by simp [results, Tryz.results29, go_sem]) rfl ⟨_, by rw [HS.out.1]; rfl, ?_, hb.out⟩
  rw [HS.out.2]
  exact .inr ⟨_, _, rfl, hc.out⟩
theorem PD.err {w : World} {v : Value} {r : Nat × Bool} (h : PD w v r) (hr : r.2 = false) : ∃ q, v = .iface 70 (.pointer (some ⟨q, 0, none⟩)) ∧ Chain w [(dsB, (r.1 : Int)), (dcB, (r.1 : Int))] 5 v := by
  rcases h with ⟨h, -⟩ | ⟨-, h⟩
  · rw [hr] at h; cases h
  · obtain ⟨q, u, rfl, h1⟩ := h
    exact ⟨q, rfl, q, u, rfl, h1⟩
theorem PD.nil {w : World} {v : Value} {r : Nat × Bool} (h : PD w v r) (hr : r.2 = true) : v = .nilIface := by
  rcases h with ⟨-, h⟩ | ⟨h, -⟩
  · exact h
  · rw [hr] at h; cases h
set_option maxRecDepth 100000 in
set_option maxHeartbeats 2000000 in
theorem size_I (w : World) (a : Option Addr) (n cap : Nat) (L : List Nd) (hV : NV w a n cap L) (hT : TagsOk L) (hE : EG w) : Calls Tryz.prog 29 #[.slice a n cap, .int .i64 1] w (SzP w 1 L) := by
  have cf := dformed_any w a n cap L hV hT hE
  have c := syntax_I w
  have HV : Hid (NV w a n cap L ∧ TagsOk L) := ⟨hV, hT⟩
  have hlen := hV.len
  have HN : Hid (n = L.length) := hlen
  clear hV hT hE hlen
  go_enter Tryz.func29, Tryz.ntmps29
  go_wp2_with (first | (go_at_call 30; refine Calls.mono c ?_; rintro e W0 ⟨rfl, rfl⟩) | (go_at_call 45; refine StopB.out ?_))
  refine ⟨Calls.mono cf ?_⟩
  rintro e W1 ⟨ve, rfl, hpd, hb⟩
  clear cf c
  rcases hr : (res L).2 with _ | _
  · obtain ⟨q, rfl, hc⟩ := hpd.out.err hr
    have HS : Hid (siz 1 L = 0 ∧ errOf 1 L = some ([(dsB, ((res L).1 : Int)), (dcB, ((res L).1 : Int))], 5)) := ⟨by unfold siz; rw [err_form (by decide) hr]; rfl, err_form (by decide) hr⟩
    have HC : Hid _ := hc
    clear hpd hr hc
    go_wp2
    refine bodyPost_ret (v := .tuple #[.int .i64 0, .iface 70 (.pointer (some ⟨q, 0, none⟩))]) (by simp [results, Tryz.results29, go_sem]) rfl ⟨_, by rw [HS.out.1]; rfl, ?_, hb.out⟩
    rw [HS.out.2]
    exact .inr ⟨_, _, rfl, HC.out⟩
  · obtain rfl := hpd.out.nil hr
    obtain ⟨h40, -⟩ := res_ok hr
    have hg := res_good hr
    have cs := szI_any W1 a n cap L (HV.out.1.on hb.out) HV.out.2 (by rw [HN.out]; exact h40) hg.sz
    obtain ⟨k, hk⟩ : ∃ k, encI.szP L = k := ⟨_, rfl⟩
    rw [hk] at cs
    have HK : Hid (encI.szP L = k) := hk
    by_cases hkl : 1048576 < k
    · have HS : Hid (siz 1 L = 0 ∧ errOf 1 L = some ([(dsB, 1048576)], 121)) := by
        have e := err_long (s := 1) (L := L) (by decide) hr (by rw [encS_I, hk]; exact hkl)
        exact ⟨by unfold siz; rw [e]; rfl, e⟩
      have hkI : (1048576 : Int) < (k : Int) := by omega
      clear hr hg hk h40 hpd
      go_wp2_with (first | (go_at_call 56; refine Calls.mono cs ?_; rintro e W2 ⟨rfl, hb2⟩) | (go_at_call 31; refine StopB.out ?_))
      refine ⟨Calls.mono (refuseN_any W2 1048576 121) ?_⟩
      rintro e W3 ⟨vr, rfl, hc3, hb3⟩
      obtain ⟨q, u, rfl, hr3⟩ := hc3.out
      clear hr3
      go_wp2
      refine bodyPost_ret (v := .tuple #[.int .i64 0, .iface 70 (.pointer (some ⟨q, 0, none⟩))]) (by simp [results, Tryz.results29, go_sem]) rfl ⟨_, by rw [HS.out.1]; rfl, ?_, (hb.out.trans (hb2.mono hb.out.size)).trans (hb3.out.mono (Nat.le_trans hb.out.size hb2.size))⟩
      rw [HS.out.2]
      exact .inr ⟨_, _, rfl, hc3.out⟩
    · have HS : Hid (siz 1 L = k ∧ errOf 1 L = none) := by
        have e := err_none (s := 1) (L := L) (by decide) hr (by rw [encS_I, hk]; exact hkl)
        exact ⟨by unfold siz; rw [e, encS_I, hk]; rfl, e⟩
      have hkI : ¬ (1048576 : Int) < (k : Int) := by omega
      clear hr hg hk h40 hpd
      go_wp2_with (first | (go_at_call 56; refine Calls.mono cs ?_; rintro e W2 ⟨rfl, hb2⟩) | fail)
      refine bodyPost_ret (v := .tuple #[.int .i64 (k : Int), .nilIface]) (by simp [results, Tryz.results29, go_sem]) rfl ⟨_, by rw [HS.out.1], ?_, hb.out.trans (hb2.mono hb.out.size)⟩
      exact .inl ⟨HS.out.2, rfl⟩
set_option maxRecDepth 100000 in
set_option maxHeartbeats 2000000 in
theorem size_E (w : World) (a : Option Addr) (n cap : Nat) (L : List Nd) (hV : NV w a n cap L) (hT : TagsOk L) (hE : EG w) : Calls Tryz.prog 29 #[.slice a n cap, .int .i64 2] w (SzP w 2 L) := by
  have cf := dformed_any w a n cap L hV hT hE
  have c := syntax_E w
  have HV : Hid (NV w a n cap L ∧ TagsOk L) := ⟨hV, hT⟩
  have hlen := hV.len
  have HN : Hid (n = L.length) := hlen
  clear hV hT hE hlen
  go_enter Tryz.func29, Tryz.ntmps29
  go_wp2_with (first | (go_at_call 30; refine Calls.mono c ?_; rintro e W0 ⟨rfl, rfl⟩) | (go_at_call 45; refine StopB.out ?_))
  refine ⟨Calls.mono cf ?_⟩
  rintro e W1 ⟨ve, rfl, hpd, hb⟩
  clear cf c
  rcases hr : (res L).2 with _ | _
  · obtain ⟨q, rfl, hc⟩ := hpd.out.err hr
    have HS : Hid (siz 2 L = 0 ∧ errOf 2 L = some ([(dsB, ((res L).1 : Int)), (dcB, ((res L).1 : Int))], 5)) := ⟨by unfold siz; rw [err_form (by decide) hr]; rfl, err_form (by decide) hr⟩
    have HC : Hid _ := hc
    clear hpd hr hc
    go_wp2
    refine bodyPost_ret (v := .tuple #[.int .i64 0, .iface 70 (.pointer (some ⟨q, 0, none⟩))]) (by simp [results, Tryz.results29, go_sem]) rfl ⟨_, by rw [HS.out.1]; rfl, ?_, hb.out⟩
    rw [HS.out.2]
    exact .inr ⟨_, _, rfl, HC.out⟩
  · obtain rfl := hpd.out.nil hr
    obtain ⟨h40, -⟩ := res_ok hr
    have hg := res_good hr
    have cs := szE_any W1 a n cap L (HV.out.1.on hb.out) HV.out.2 (by rw [HN.out]; exact h40) hg.sz
    obtain ⟨k, hk⟩ : ∃ k, encE.szP L = k := ⟨_, rfl⟩
    rw [hk] at cs
    have HK : Hid (encE.szP L = k) := hk
    by_cases hkl : 1048576 < k
    · have HS : Hid (siz 2 L = 0 ∧ errOf 2 L = some ([(dsB, 1048576)], 121)) := by
        have e := err_long (s := 2) (L := L) (by decide) hr (by rw [encS_E, hk]; exact hkl)
        exact ⟨by unfold siz; rw [e]; rfl, e⟩
      have hkI : (1048576 : Int) < (k : Int) := by omega
      clear hr hg hk h40 hpd
      go_wp2_with (first | (go_at_call 56; refine Calls.mono cs ?_; rintro e W2 ⟨rfl, hb2⟩) | (go_at_call 31; refine StopB.out ?_))
      refine ⟨Calls.mono (refuseN_any W2 1048576 121) ?_⟩
      rintro e W3 ⟨vr, rfl, hc3, hb3⟩
      obtain ⟨q, u, rfl, hr3⟩ := hc3.out
      clear hr3
      go_wp2
      refine bodyPost_ret (v := .tuple #[.int .i64 0, .iface 70 (.pointer (some ⟨q, 0, none⟩))]) (by simp [results, Tryz.results29, go_sem]) rfl ⟨_, by rw [HS.out.1]; rfl, ?_, (hb.out.trans (hb2.mono hb.out.size)).trans (hb3.out.mono (Nat.le_trans hb.out.size hb2.size))⟩
      rw [HS.out.2]
      exact .inr ⟨_, _, rfl, hc3.out⟩
    · have HS : Hid (siz 2 L = k ∧ errOf 2 L = none) := by
        have e := err_none (s := 2) (L := L) (by decide) hr (by rw [encS_E, hk]; exact hkl)
        exact ⟨by unfold siz; rw [e, encS_E, hk]; rfl, e⟩
      have hkI : ¬ (1048576 : Int) < (k : Int) := by omega
      clear hr hg hk h40 hpd
      go_wp2_with (first | (go_at_call 56; refine Calls.mono cs ?_; rintro e W2 ⟨rfl, hb2⟩) | fail)
      refine bodyPost_ret (v := .tuple #[.int .i64 (k : Int), .nilIface]) (by simp [results, Tryz.results29, go_sem]) rfl ⟨_, by rw [HS.out.1], ?_, hb.out.trans (hb2.mono hb.out.size)⟩
      exact .inl ⟨HS.out.2, rfl⟩
theorem size_any (w : World) (a : Option Addr) (n cap : Nat) (L : List Nd) (hV : NV w a n cap L) (hT : TagsOk L) (hE : EG w) (s : Int) : Calls Tryz.prog 29 #[.slice a n cap, .int .i64 s] w (SzP w s L) := by
  by_cases h1 : s = 1
  · subst h1; exact size_I w a n cap L hV hT hE
  · by_cases h2 : s = 2
    · subst h2; exact size_E w a n cap L hV hT hE
    · exact size_no w a n cap L s ⟨h1, h2⟩
end Go.Proofs.YtoikdpjjcnmgeaaGreatDoor
end
