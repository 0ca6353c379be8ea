import Derived.Test.YtoikdpjjcnmgeaaGreatDoorVg
import Derived.Test.YtoikdpjjcnmgeaaGreatDoorBk
import Derived.Deep.RegionLawGrows
import Derived.Deep.AppendLies
section
/-
  DERIVED. A head's length, looked at.
-/
namespace Go.Proofs.YtoikdpjjcnmgeaaGreatDoor
open Go Go.Proofs Go.RowKit
open Wk (Nd nds)
open Go.Sort

/-- A head as a value. -/
def hdV (v : Int) (len sz : Nat) (x : Nat) : Value := .agg #[.int .i64 v, .int .u32 (len : Int), .int .i64 (sz : Int), .iface x (.agg #[])]
/-- A head in memory. -/
structure HC (W : World) (g : Nat) (v : Int) (len sz x : Nat) : Prop where
  h0 : W.cell? ⟨g, 0, none⟩ = some (.int .i64 v)
  h1 : W.cell? ⟨g, 1, none⟩ = some (.int .u32 (len : Int))
  h2 : W.cell? ⟨g, 2, none⟩ = some (.int .i64 (sz : Int))
  h3 : W.cell? ⟨g, 3, none⟩ = some (.iface x (.agg #[]))
theorem HC.on {W W' : World} {g : Nat} {v : Int} {len sz x : Nat} (h : HC W g v len sz x) (hb : Below W.heap.size W W') : HC W' g v len sz x :=
  ⟨(hb.cell (Rp.cell_lt h.h0)).trans h.h0, (hb.cell (Rp.cell_lt h.h1)).trans h.h1, (hb.cell (Rp.cell_lt h.h2)).trans h.h2, (hb.cell (Rp.cell_lt h.h3)).trans h.h3⟩
theorem HC.new (w : World) (v : Int) (len sz x : Nat) : HC (w.alloc (.cells #[.int .i64 v, .int .u32 (len : Int), .int .i64 (sz : Int), .iface x (.agg #[])] 159)) w.heap.size v len sz x := ⟨by simp, by simp, by simp, by simp⟩

set_option maxRecDepth 100000 in
set_option maxHeartbeats 2000000 in
theorem needLen_any (w : World) (rb g m cap k fin : Nat) (v : Int) (len sz x : Nat) (hm : m ≤ 4000000) (c1 : w.cell? ⟨rb, 1, none⟩ = some (.int .i64 (k : Int))) (c3 : w.cell? ⟨rb, 3, none⟩ = some (.slice (some ⟨g, 0, none⟩) (m + 1) cap)) (s1 : w.cell? ⟨g, m * 6 + 1, none⟩ = some (.int .i64 (fin : Int))) (hk : k + sz ≤ fin) (hf : fin ≤ 1048576) :
    Calls Tryz.prog 96 #[.pointer (some ⟨rb, 0, none⟩), hdV v len sz x] w (NeedP w k (decide (len ≠ und ∧ fin - k - sz < len))) := by
  obtain ⟨W0, hW0⟩ : ∃ W0, w.alloc (.cells #[.int .i64 v, .int .u32 (len : Int), .int .i64 (sz : Int), .iface x (.agg #[])] 159) = W0 := ⟨_, rfl⟩
  have hb0 : Below w.heap.size w W0 := by rw [← hW0]; exact (Below.refl _ _).alloc (Nat.le_refl _) _
  have HH : Hid (HC W0 w.heap.size v len sz x) := by rw [← hW0]; exact HC.new w v len sz x
  have d1 := (hb0.cell (Rp.cell_lt c1)).trans c1
  have d3 := (hb0.cell (Rp.cell_lt c3)).trans c3
  have d4 := (hb0.cell (Rp.cell_lt s1)).trans s1
  obtain ⟨y0, y1, y2, y3⟩ := HH.out
  have k1 := fun d os => cell_regrown d1 d os
  have k4 := fun d os => cell_regrown d4 d os
  have k5 := fun d os => cell_regrown y1 d os
  have k6 := fun d os => cell_regrown y2 d os
  have cM : ∀ d os, Calls Tryz.prog 57 #[.pointer (some ⟨rb, 0, none⟩)] (grow (redrawn W0 d) os) fun x w'' => x = .returned (.pointer (some ⟨g, m * 6, none⟩)) ∧ ∃ p : Regrown, w'' = grow (redrawn W0 p.d) p.os := fun d os => Calls.regrown_of (inner_any _ rb g m cap hm (cell_regrown d3 d os))
  have CG : Hid (∀ W, Below W0.heap.size W0 W → Calls Tryz.prog 93 #[.pointer (some ⟨rb, 0, none⟩), .int .i64 122] W fun e w' => Hid (Pan w' k 122 e) ∧ Hid (Below W.heap.size W w')) := fun W hb => giveUp_any W rb k 122 ((hb.cell (Rp.cell_lt d1)).trans d1)
  obtain ⟨F, hF⟩ : ∃ F, fin - k - sz = F := ⟨_, rfl⟩
  have e1 : IntKind.i64.wrap ((fin : Int) - (k : Int)) = (fin : Int) - (k : Int) := by rw [IntKind.wrap_i64]; omega
  have e2 : IntKind.i64.wrap (F : Int) = (F : Int) := by rw [IntKind.wrap_i64]; omega
  have e5 : wrap64 (F : Int) = (F : Int) := by unfold wrap64; omega
  have e6 : (F : Int) % 4294967296 = (F : Int) := by omega
  have e3 : (fin : Int) - (k : Int) - (sz : Int) = (F : Int) := by omega
  have e4 : IntKind.u32.wrap (F : Int) = (F : Int) := by rw [IntKind.wrap_u32]; omega
  rw [hF]
  clear hF c1 c3 s1 d3 hk hf
  by_cases hu : len = und
  · have b1 : ((len : Int) != 4294967295) = false := by rw [hu]; rfl
    have hS : decide (len ≠ und ∧ F < len) = false := decide_eq_false (fun h => h.1 hu)
    rw [hS]
    clear hS hu
    unfold hdV
    go_enter Tryz.func96, Tryz.ntmps96
    go_wp2
    refine wp_region_quiet_below hmix (by kernel_rfl) ?_
    repeat (quiet_step (first | exact cM _ _))
    refine wpQuiet_nil ?_
    intro _ hw'
    obtain ⟨⟨dq, osq⟩, hw''⟩ := hw'
    subst hw''
    have hbq := below_regrown W0 dq osq
    have z1 := k5 dq osq
    generalize grow (redrawn W0 dq) osq = W1 at hbq z1
    go_wp2
    exact bodyPost_end (results_none rfl _ _ _) rfl ⟨rfl, hb0.trans (hbq.mono hb0.size)⟩
  · have b1 : ((len : Int) != 4294967295) = true := bne_iff_ne.2 (by unfold und at hu; omega)
    by_cases hs : F < len
    · have b2 : decide (F < len) = true := decide_eq_true hs
      have hS : decide (len ≠ und ∧ F < len) = true := decide_eq_true ⟨hu, hs⟩
      rw [hS]
      clear hS hu hs
      unfold hdV
      go_enter Tryz.func96, Tryz.ntmps96
      go_wp2
      refine wp_region_quiet_below hmix (by kernel_rfl) ?_
      repeat (quiet_step (first | exact cM _ _))
      refine wpQuiet_nil ?_
      intro _ hw'
      obtain ⟨⟨dq, osq⟩, hw''⟩ := hw'
      subst hw''
      have hbq := below_regrown W0 dq osq
      have z1 := k5 dq osq
      generalize grow (redrawn W0 dq) osq = W1 at hbq z1
      go_wp2_with (go_at_call 93; refine StopV.out ?_)
      refine ⟨Calls.mono (CG.out W1 hbq) ?_⟩
      rintro e W2 ⟨⟨q, rfl, hc⟩, HB⟩
      exact ⟨rfl, ⟨q, rfl, hc⟩, (hb0.trans (hbq.mono hb0.size)).trans (HB.out.mono (Nat.le_trans hb0.size hbq.size))⟩
    · have b2 : decide (F < len) = false := decide_eq_false hs
      have hS : decide (len ≠ und ∧ F < len) = false := decide_eq_false (fun h => hs h.2)
      rw [hS]
      clear hS hu hs
      unfold hdV
      go_enter Tryz.func96, Tryz.ntmps96
      go_wp2
      refine wp_region_quiet_below hmix (by kernel_rfl) ?_
      repeat (quiet_step (first | exact cM _ _))
      refine wpQuiet_nil ?_
      intro _ hw'
      obtain ⟨⟨dq, osq⟩, hw''⟩ := hw'
      subst hw''
      have hbq := below_regrown W0 dq osq
      have z1 := k5 dq osq
      generalize grow (redrawn W0 dq) osq = W1 at hbq z1
      go_wp2
      exact bodyPost_end (results_none rfl _ _ _) rfl ⟨rfl, hb0.trans (hbq.mono hb0.size)⟩

/-- What a length may be refused for. -/
def lenC (v : Int) (len sz F : Nat) : Nat :=
  if badLen ⟨v, sz, len, true⟩ = true then 125 else if v ≠ 18 ∧ 65534 < len then 121 else if len ≠ und ∧ F < len then 122 else 0
def LenP (w : World) (k c : Nat) (e : Ending) (w' : World) : Prop := (if c = 0 then e = .returned (.tuple #[]) else Pan w' k c e) ∧ Below w.heap.size w w'
set_option maxRecDepth 100000 in
set_option maxHeartbeats 2000000 in
theorem checkLen_any (w : World) (rb g m cap k fin : Nat) (v : Int) (len sz x : Nat) (hm : m ≤ 4000000) (c1 : w.cell? ⟨rb, 1, none⟩ = some (.int .i64 (k : Int))) (c3 : w.cell? ⟨rb, 3, none⟩ = some (.slice (some ⟨g, 0, none⟩) (m + 1) cap)) (s1 : w.cell? ⟨g, m * 6 + 1, none⟩ = some (.int .i64 (fin : Int))) (hk : k + sz ≤ fin) (hf : fin ≤ 1048576) (hl : len < 4294967296) :
    Calls Tryz.prog 100 #[.pointer (some ⟨rb, 0, none⟩), hdV v len sz x] w (LenP w k (lenC v len sz (fin - k - sz))) := by
  obtain ⟨W0, hW0⟩ : ∃ W0, w.alloc (.cells #[.int .i64 v, .int .u32 (len : Int), .int .i64 (sz : Int), .iface x (.agg #[])] 159) = W0 := ⟨_, rfl⟩
  have hb0 : Below w.heap.size w W0 := by rw [← hW0]; exact (Below.refl _ _).alloc (Nat.le_refl _) _
  have HH : Hid (HC W0 w.heap.size v len sz x) := by rw [← hW0]; exact HC.new w v len sz x
  have d1 := (hb0.cell (Rp.cell_lt c1)).trans c1
  have d3 := (hb0.cell (Rp.cell_lt c3)).trans c3
  have d4 := (hb0.cell (Rp.cell_lt s1)).trans s1
  obtain ⟨y0, y1, y2, y3⟩ := HH.out
  have CG : Hid (∀ c : Nat, Calls Tryz.prog 93 #[.pointer (some ⟨rb, 0, none⟩), .int .i64 (c : Int)] W0 fun e w' => Hid (Pan w' k c e) ∧ Hid (Below W0.heap.size W0 w')) := fun c => giveUp_any W0 rb k c d1
  have CN : Hid (Calls Tryz.prog 96 #[.pointer (some ⟨rb, 0, none⟩), .agg #[.int .i64 v, .int .u32 (len : Int), .int .i64 (sz : Int), .iface x (.agg #[])]] W0 (NeedP W0 k (decide (len ≠ und ∧ fin - k - sz < len)))) := needLen_any W0 rb g m cap k fin v len sz x hm d1 d3 d4 hk hf
  have CO := odd_any W0 len hl
  obtain ⟨F, hF⟩ : ∃ F, fin - k - sz = F := ⟨_, rfl⟩
  rw [hF] at CN ⊢
  obtain ⟨C, hC⟩ : ∃ C, lenC v len sz F = C := ⟨_, rfl⟩
  have HCC : Hid _ := hC
  rw [hC]
  unfold lenC badLen at HCC
  clear hF c1 c3 s1 d1 d3 d4 hk hf hC
  have finish : ∀ c, c = C → c ≠ 0 → ∀ {e : Ending} {W2 : World}, Pan W2 k c e → Below W0.heap.size W0 W2 → LenP w k C e W2 := fun c hc h0 e W2 hp hB => by
    subst hc
    exact ⟨by rw [if_neg h0]; exact hp, hb0.trans (hB.mono hb0.size)⟩
  have HFN : Hid _ := @finish
  clear finish
  by_cases hv : v = 18
  · have b1 : (v != 18) = false := by rw [hv]; rfl
    by_cases hu : len = und
    · have b0 : ((len : Int) == 4294967295) = true := by rw [hu]; rfl
      have HC1 : Hid (0 = C) := by show _ = _; rw [← HCC.out]; simp [hu, hv]
      have hod : (!decide (len = und) && decide (len % 2 = 1)) = false := by simp [hu]
      rw [hod] at CO
      rw [decide_eq_false (fun h : len ≠ und ∧ F < len => h.1 hu)] at CN
      clear hu hv HCC hod
      unfold hdV
      go_enter Tryz.func100, Tryz.ntmps100
      go_wp2_with (go_at_call 94; refine StopV.out ?_)
      refine ⟨Calls.mono CO ?_⟩
      rintro e W1 ⟨rfl, rfl⟩
      go_wp2_with (go_at_call 96; refine StopV.out ?_)
      refine ⟨Calls.mono CN.out ?_⟩
      rintro e W2 ⟨he, HB⟩
      obtain rfl : e = .returned (.tuple #[]) := he
      go_wp2
      exact bodyPost_end (results_none rfl _ _ _) rfl ⟨by rw [← HC1.out]; rfl, hb0.trans (HB.mono hb0.size)⟩
    · have b0 : ((len : Int) == 4294967295) = false := beq_eq_false_iff_ne.2 (by unfold und at hu; omega)
      by_cases ho : len % 2 = 1
      · have HC1 : Hid (125 = C) := by show _ = _; rw [← HCC.out]; simp [hu, ho]
        have hod : (!decide (len = und) && decide (len % 2 = 1)) = true := by simp [hu, ho]
        rw [hod] at CO
        clear hu hv ho HCC CN hod
        unfold hdV
        go_enter Tryz.func100, Tryz.ntmps100
        go_wp2_with (go_at_call 94; refine StopV.out ?_)
        refine ⟨Calls.mono CO ?_⟩
        rintro e W1 ⟨rfl, rfl⟩
        go_wp2_with (go_at_call 93; refine StopV.out ?_)
        refine ⟨Calls.mono (CG.out 125) ?_⟩
        rintro e W2 ⟨⟨q, rfl, hc⟩, HB⟩
        exact ⟨rfl, HFN.out 125 HC1.out (by decide) ⟨q, rfl, hc⟩ HB.out⟩
      · have hod : (!decide (len = und) && decide (len % 2 = 1)) = false := by simp [ho]
        rw [hod] at CO
        by_cases hs : F < len
        · have HC1 : Hid (122 = C) := by show _ = _; rw [← HCC.out]; simp [hu, hv, ho, hs]
          rw [decide_eq_true (⟨hu, hs⟩ : len ≠ und ∧ F < len)] at CN
          clear hu hv ho HCC hod hs
          unfold hdV
          go_enter Tryz.func100, Tryz.ntmps100
          go_wp2_with (go_at_call 94; refine StopV.out ?_)
          refine ⟨Calls.mono CO ?_⟩
          rintro e W1 ⟨rfl, rfl⟩
          go_wp2_with (go_at_call 96; refine StopV.out ?_)
          refine ⟨Calls.mono CN.out ?_⟩
          rintro e W2 ⟨⟨q, rfl, hc⟩, HB⟩
          exact ⟨rfl, HFN.out 122 HC1.out (by decide) ⟨q, rfl, hc⟩ HB⟩
        · have HC1 : Hid (0 = C) := by show _ = _; rw [← HCC.out]; simp [hu, hv, ho, hs]
          rw [decide_eq_false (fun h : len ≠ und ∧ F < len => hs h.2)] at CN
          clear hu hv ho HCC hod hs
          unfold hdV
          go_enter Tryz.func100, Tryz.ntmps100
          go_wp2_with (go_at_call 94; refine StopV.out ?_)
          refine ⟨Calls.mono CO ?_⟩
          rintro e W1 ⟨rfl, rfl⟩
          go_wp2_with (go_at_call 96; refine StopV.out ?_)
          refine ⟨Calls.mono CN.out ?_⟩
          rintro e W2 ⟨he, HB⟩
          obtain rfl : e = .returned (.tuple #[]) := he
          go_wp2
          exact bodyPost_end (results_none rfl _ _ _) rfl ⟨by rw [← HC1.out]; rfl, hb0.trans (HB.mono hb0.size)⟩
  · have b1 : (v != 18) = true := bne_iff_ne.2 hv
    by_cases hu : len = und
    · have b0 : ((len : Int) == 4294967295) = true := by rw [hu]; rfl
      have HC1 : Hid (125 = C) := by show _ = _; rw [← HCC.out]; simp [hu, hv]
      clear hu hv HCC CO CN
      unfold hdV
      go_enter Tryz.func100, Tryz.ntmps100
      go_wp2_with (go_at_call 93; refine StopV.out ?_)
      refine ⟨Calls.mono (CG.out 125) ?_⟩
      rintro e W2 ⟨⟨q, rfl, hc⟩, HB⟩
      exact ⟨rfl, HFN.out 125 HC1.out (by decide) ⟨q, rfl, hc⟩ HB.out⟩
    · have b0 : ((len : Int) == 4294967295) = false := beq_eq_false_iff_ne.2 (by unfold und at hu; omega)
      by_cases ho : len % 2 = 1
      · have HC1 : Hid (125 = C) := by show _ = _; rw [← HCC.out]; simp [hu, ho]
        have hod : (!decide (len = und) && decide (len % 2 = 1)) = true := by simp [hu, ho]
        rw [hod] at CO
        clear hu hv ho HCC CN hod
        unfold hdV
        go_enter Tryz.func100, Tryz.ntmps100
        go_wp2_with (go_at_call 94; refine StopV.out ?_)
        refine ⟨Calls.mono CO ?_⟩
        rintro e W1 ⟨rfl, rfl⟩
        go_wp2_with (go_at_call 93; refine StopV.out ?_)
        refine ⟨Calls.mono (CG.out 125) ?_⟩
        rintro e W2 ⟨⟨q, rfl, hc⟩, HB⟩
        exact ⟨rfl, HFN.out 125 HC1.out (by decide) ⟨q, rfl, hc⟩ HB.out⟩
      · have hod : (!decide (len = und) && decide (len % 2 = 1)) = false := by simp [ho]
        rw [hod] at CO
        by_cases hL : 65534 < len
        · have HC1 : Hid (121 = C) := by show _ = _; rw [← HCC.out]; simp [hu, hv, ho, hL]
          have b5 : decide ((65534 : Int) < (len : Int)) = true := decide_eq_true (by omega)
          clear hu hv ho HCC CN hod hL
          unfold hdV
          go_enter Tryz.func100, Tryz.ntmps100
          go_wp2_with (go_at_call 94; refine StopV.out ?_)
          refine ⟨Calls.mono CO ?_⟩
          rintro e W1 ⟨rfl, rfl⟩
          go_wp2_with (go_at_call 93; refine StopV.out ?_)
          refine ⟨Calls.mono (CG.out 121) ?_⟩
          rintro e W2 ⟨⟨q, rfl, hc⟩, HB⟩
          exact ⟨rfl, HFN.out 121 HC1.out (by decide) ⟨q, rfl, hc⟩ HB.out⟩
        · have b5 : decide ((65534 : Int) < (len : Int)) = false := decide_eq_false (by omega)
          by_cases hs : F < len
          · have HC1 : Hid (122 = C) := by show _ = _; rw [← HCC.out]; simp [hu, hv, ho, hs, hL]
            rw [decide_eq_true (⟨hu, hs⟩ : len ≠ und ∧ F < len)] at CN
            clear hu hv ho HCC hod hs
            unfold hdV
            go_enter Tryz.func100, Tryz.ntmps100
            go_wp2_with (go_at_call 94; refine StopV.out ?_)
            refine ⟨Calls.mono CO ?_⟩
            rintro e W1 ⟨rfl, rfl⟩
            go_wp2_with (go_at_call 96; refine StopV.out ?_)
            refine ⟨Calls.mono CN.out ?_⟩
            rintro e W2 ⟨⟨q, rfl, hc⟩, HB⟩
            exact ⟨rfl, HFN.out 122 HC1.out (by decide) ⟨q, rfl, hc⟩ HB⟩
          · have HC1 : Hid (0 = C) := by show _ = _; rw [← HCC.out]; simp [hu, hv, ho, hs, hL]
            rw [decide_eq_false (fun h : len ≠ und ∧ F < len => hs h.2)] at CN
            clear hu hv ho HCC hod hs
            unfold hdV
            go_enter Tryz.func100, Tryz.ntmps100
            go_wp2_with (go_at_call 94; refine StopV.out ?_)
            refine ⟨Calls.mono CO ?_⟩
            rintro e W1 ⟨rfl, rfl⟩
            go_wp2_with (go_at_call 96; refine StopV.out ?_)
            refine ⟨Calls.mono CN.out ?_⟩
            rintro e W2 ⟨he, HB⟩
            obtain rfl : e = .returned (.tuple #[]) := he
            go_wp2
            exact bodyPost_end (results_none rfl _ _ _) rfl ⟨by rw [← HC1.out]; rfl, hb0.trans (HB.mono hb0.size)⟩
end Go.Proofs.YtoikdpjjcnmgeaaGreatDoor
end

section
/-
  DERIVED. Small questions of a reader; past a head and its value.
-/
namespace Go.Proofs.YtoikdpjjcnmgeaaGreatDoor
open Go Go.Proofs Go.RowKit
open Wk (Nd nds)
open Go.Sort

set_option maxRecDepth 100000 in
theorem depth_any (w : World) (rb m cap : Nat) (v : Option Addr) (hm : m ≤ 4000000) (c3 : w.cell? ⟨rb, 3, none⟩ = some (.slice v m cap)) : Calls Tryz.prog 95 #[.pointer (some ⟨rb, 0, none⟩)] w fun e w' => e = .returned (.int .i64 ((m / 2 : Nat) : Int)) ∧ w = w' := by
  have h1 : Int.tdiv (m : Int) 2 = ((m / 2 : Nat) : Int) := by rw [Int.tdiv_eq_ediv_of_nonneg (by omega)]; omega
  have h2 : IntKind.i64.wrap ((m / 2 : Nat) : Int) = ((m / 2 : Nat) : Int) := by rw [IntKind.wrap_i64]; omega
  have h3 : wrap64 ((m / 2 : Nat) : Int) = ((m / 2 : Nat) : Int) := by unfold wrap64; omega
  generalize m / 2 = d at h1 h2 h3 ⊢
  go_enter Tryz.func95, Tryz.ntmps95
  go_wp2
  go_ret
  exact ⟨rfl, rfl⟩
set_option maxRecDepth 100000 in
theorem group_any (w : World) (t : Nat) (ht : t < 4294967296) : Calls Tryz.prog 101 #[.int .u32 (t : Int)] w fun e w' => e = .returned (.bool (decide (t % 65536 = 0))) ∧ w = w' := by
  have hA : bits .and .u32 (t : Int) 65535 = ((t % 65536 : Nat) : Int) := by
    have := u32_and_nat t 65535 ht (by decide)
    rw [show ((65535 : Nat) : Int) = 65535 from rfl] at this
    rw [this, show (65535 : Nat) = 2 ^ 16 - 1 from rfl, Nat.and_two_pow_sub_one_eq_mod]
  have hB : (((t % 65536 : Nat) : Int) == 0) = decide (t % 65536 = 0) := by
    rw [show (((t % 65536 : Nat) : Int) == 0) = decide (((t % 65536 : Nat) : Int) = 0) from rfl]
    exact decide_eq_decide.2 (by omega)
  generalize t % 65536 = d at hA hB ⊢
  have HB : Hid _ := hB
  clear hB
  go_enter Tryz.func101, Tryz.ntmps101
  go_wp2
  go_ret
  exact ⟨by rw [← HB.out]; rfl, rfl⟩
set_option maxRecDepth 100000 in
theorem stand_any (w : World) (t : Nat) : Calls Tryz.prog 99 #[.int .u32 (t : Int)] w fun e w' => e = .returned (.bool (!isBar t)) ∧ w = w' := by
  have hs : ((t / 65536 : Nat) : Int) = (t : Int) / 65536 := by omega
  obtain ⟨R, hR⟩ : ∃ R, (!isBar t) = R := ⟨_, rfl⟩
  have HR : Hid _ := hR
  rw [hR]
  unfold isBar at HR
  clear hR
  by_cases h0 : t / 65536 = 0
  · have b0 : ((t : Int) / 65536 == 0) = true := beq_iff_eq.2 (by omega)
    have HR1 : Hid (R = false) := by show _ = _; rw [← HR.out]; simp [h0]
    clear HR h0 hs
    go_enter Tryz.func99, Tryz.ntmps99
    go_wp2
    go_ret
    exact ⟨by rw [HR1.out]; rfl, rfl⟩
  have b0 : ((t : Int) / 65536 == 0) = false := beq_eq_false_iff_ne.2 (by omega)
  by_cases h2 : t / 65536 = 2
  · have b2 : ((t : Int) / 65536 == 2) = true := beq_iff_eq.2 (by omega)
    have HR1 : Hid (R = false) := by show _ = _; rw [← HR.out]; simp [h2]
    clear HR h0 h2 hs
    go_enter Tryz.func99, Tryz.ntmps99
    go_wp2
    go_ret
    exact ⟨by rw [HR1.out]; rfl, rfl⟩
  have b2 : ((t : Int) / 65536 == 2) = false := beq_eq_false_iff_ne.2 (by omega)
  by_cases h3 : t / 65536 = 65534
  · have b3 : ((t : Int) / 65536 == 65534) = true := beq_iff_eq.2 (by omega)
    have HR1 : Hid (R = false) := by show _ = _; rw [← HR.out]; simp [h3]
    clear HR h0 h2 h3 hs
    go_enter Tryz.func99, Tryz.ntmps99
    go_wp2
    go_ret
    exact ⟨by rw [HR1.out]; rfl, rfl⟩
  have b3 : ((t : Int) / 65536 == 65534) = false := beq_eq_false_iff_ne.2 (by omega)
  by_cases h4 : t / 65536 = 65535
  · have b4 : ((t : Int) / 65536 == 65535) = true := beq_iff_eq.2 (by omega)
    have HR1 : Hid (R = false) := by show _ = _; rw [← HR.out]; simp [h4]
    clear HR h0 h2 h3 h4 hs
    go_enter Tryz.func99, Tryz.ntmps99
    go_wp2
    go_ret
    exact ⟨by rw [HR1.out]; rfl, rfl⟩
  have b4 : ((t : Int) / 65536 == 65535) = false := beq_eq_false_iff_ne.2 (by omega)
  have HR1 : Hid (R = true) := by show _ = _; rw [← HR.out]; simp [h0, h2, h3, h4]
  clear HR h0 h2 h3 h4 hs
  go_enter Tryz.func99, Tryz.ntmps99
  go_wp2
  go_ret
  exact ⟨by rw [HR1.out]; rfl, rfl⟩

set_option maxRecDepth 100000 in
set_option maxHeartbeats 2000000 in
theorem leave_any (w : World) (base rb k : Nat) (bv nv sv : Value) (M : List Nd) (st : List Sp) (v : Int) (len sz x : Nat) (hP : PR base rb bv w k M st nv sv) (hk : k ≤ 1048576) (hz : sz ≤ 12) (hl : len ≤ 1048576) :
    Calls Tryz.prog 102 #[.pointer (some ⟨rb, 0, none⟩), hdV v len sz x] w fun e w' => e = .returned (.tuple #[]) ∧ Hid (PR base rb bv w' (k + sz + len) M st nv sv) ∧ Hid (Below base w w') := by
  obtain ⟨W0, hW0⟩ : ∃ W0, w.alloc (.cells #[.int .i64 v, .int .u32 (len : Int), .int .i64 (sz : Int), .iface x (.agg #[])] 159) = W0 := ⟨_, rfl⟩
  have hb0 : Below w.heap.size w W0 := by rw [← hW0]; exact (Below.refl _ _).alloc (Nat.le_refl _) _
  have HH : Hid (HC W0 w.heap.size v len sz x) := by rw [← hW0]; exact HC.new w v len sz x
  have HP : Hid (PR base rb bv W0 k M st nv sv) := hP.on hb0
  obtain ⟨y0, y1, y2, y3⟩ := HH.out
  have c1 := HP.out.c1
  have f1 := HP.out.fz 1
  have hne : rb ≠ w.heap.size := Nat.ne_of_lt (Rp.cell_lt hP.c0)
  have hne' : w.heap.size ≠ rb := fun h => hne h.symm
  have e1 : IntKind.i64.wrap (len : Int) = (len : Int) := by rw [IntKind.wrap_i64]; omega
  have e2 : IntKind.i64.wrap ((sz : Int) + (len : Int)) = ((sz + len : Nat) : Int) := by rw [IntKind.wrap_i64]; omega
  have e3 : IntKind.i64.wrap ((k : Int) + ((sz + len : Nat) : Int)) = ((k + sz + len : Nat) : Int) := by rw [IntKind.wrap_i64]; omega
  have HB : Hid (base ≤ w.heap.size) := hP.lt
  unfold hdV
  go_enter Tryz.func102, Tryz.ntmps102
  go_wp2
  go_region
  have e4 : (k : Int) + ((sz : Int) + (len : Int)) = ((k + sz + len : Nat) : Int) := by omega
  rw [e4]
  refine bodyPost_end (results_none rfl _ _ _) rfl ⟨rfl, ?_, ?_⟩
  · exact (HP.out.setAt (k + sz + len)).on ((Below.refl _ _).drew)
  · exact (((hb0.mono HB.out).setCell (p := ⟨rb, 1, none⟩) HP.out.hb _).drew)
end Go.Proofs.YtoikdpjjcnmgeaaGreatDoor
end

section
/-
  DERIVED. What stays of a reader where a list of its own grows or is written.
-/
namespace Go.Proofs.YtoikdpjjcnmgeaaGreatDoor
open Go Go.Proofs Go.RowKit
open Wk (Nd nds)
open Go.Sort

theorem below_grown {base : Nat} {W W1 : World} {e : TypeId} {z : Nat} {v : Value} {n : Nat} {xs : List Value} (ho : W.ownsRow base e z v n xs) (hg : W.grownBy W1 v.ownBlock) (hb : base ≤ W.heap.size) : Below base W W1 :=
  ⟨hg.os, hg.tape, hg.output, hg.size, fun k hk => hg.block k (by omega) (fun e => by have := (ho.lt k e.symm).1; omega)⟩
/-- What holds of each block that is no row of this type. -/
theorem grown_other {base : Nat} {W W1 : World} {e : TypeId} {z : Nat} {v : Value} {n : Nat} {xs : List Value} (ho : W.ownsRow base e z v n xs) (hg : W.grownBy W1 v.ownBlock) {g : Nat} {cur : Array Value} {t : TypeId} (hc : W.heap[g]? = some (Obj.cells cur t)) (ht : t ≠ e) : W1.heap[g]? = W.heap[g]? :=
  hg.block g (Array.getElem?_eq_some_iff.1 hc).1 (fun e' => by
    rcases ho.2 with ⟨rfl, -⟩ | ⟨g', cap, cur', rfl, -, hh, -⟩
    · cases e'
    · cases e'
      rw [hc] at hh
      cases hh
      exact ht rfl)
theorem cell_block {W W1 : World} {g i : Nat} (h : W1.heap[g]? = W.heap[g]?) : W1.cell? ⟨g, i, none⟩ = W.cell? ⟨g, i, none⟩ := by
  simp [World.cell?, h]
theorem frozen_block {W W1 : World} {g i : Nat} (h : W1.heap[g]? = W.heap[g]?) : W1.frozen? ⟨g, i, none⟩ = W.frozen? ⟨g, i, none⟩ := by
  simp [World.frozen?, h]
/-- The list of nodes grew: all else of the reader stays. -/
theorem PR.grownN {base rb : Nat} {bv nv nv' sv : Value} {W W1 : World} {k : Nat} {M M' : List Nd} {st : List Sp} (h : PR base rb bv W k M st nv sv) (hg : W.grownBy W1 nv.ownBlock) (hn : W1.ownsRow base 54 4 nv' M'.length (nds M')) (hz : M'.length ≠ 0) :
    W1.cell? ⟨rb, 2, none⟩ = some nv ∧ W1.frozen? ⟨rb, 2, none⟩ = false ∧ PR base rb bv (W1.setCell ⟨rb, 2, none⟩ nv') k M' st nv' sv := by
  obtain ⟨cs, ht⟩ := h.ty
  have hr := grown_other h.nd hg ht (by decide)
  have c0 := (cell_block (i := 0) hr).trans h.c0
  have c1 := (cell_block (i := 1) hr).trans h.c1
  have c2 := (cell_block (i := 2) hr).trans h.c2
  have c3 := (cell_block (i := 3) hr).trans h.c3
  have hs : W1.ownsRow base 112 6 sv st.length (spc st) := own_same h.sp (fun g cur hc => grown_other h.nd hg hc (by decide))
  have fz : ∀ i, W1.frozen? ⟨rb, i, none⟩ = false := fun i => (frozen_block hr).trans (h.fz i)
  have hk : ∀ e : TypeId, e ≠ 115 → ∀ (g : Nat) (cur : Array Value), W1.heap[g]? = some (Obj.cells cur e) → (W1.setCell ⟨rb, 2, none⟩ nv').heap[g]? = W1.heap[g]? := fun e he g cur hgg => heap_setCell_other W1 ⟨rb, 2, none⟩ g nv' (fun hc => by
    have hc : g = rb := hc
    rw [hc, hr, ht] at hgg
    cases hgg
    exact he rfl)
  refine ⟨c2, fz 2, ⟨(Rp.cell_set_ne (by decide)).trans c0, (Rp.cell_set_ne (by decide)).trans c1, Rp.cell_set_eq c2, (Rp.cell_set_ne (by decide)).trans c3, fun i => by simpa using fz i, ty_set ⟨cs, hr.trans ht⟩, own_same hn (hk 54 (by decide)), own_same hs (hk 112 (by decide)), h.hb, fun e => absurd e hz⟩⟩
/-- The list of spans grew: all else of the reader stays. -/
theorem PR.grownS {base rb : Nat} {bv nv sv sv' : Value} {W W1 : World} {k : Nat} {M : List Nd} {st st' : List Sp} (h : PR base rb bv W k M st nv sv) (hg : W.grownBy W1 sv.ownBlock) (hn : W1.ownsRow base 112 6 sv' st'.length (spc st')) :
    W1.cell? ⟨rb, 3, none⟩ = some sv ∧ W1.frozen? ⟨rb, 3, none⟩ = false ∧ PR base rb bv (W1.setCell ⟨rb, 3, none⟩ sv') k M st' nv sv' := by
  obtain ⟨cs, ht⟩ := h.ty
  have hr := grown_other h.sp hg ht (by decide)
  have c0 := (cell_block (i := 0) hr).trans h.c0
  have c1 := (cell_block (i := 1) hr).trans h.c1
  have c2 := (cell_block (i := 2) hr).trans h.c2
  have c3 := (cell_block (i := 3) hr).trans h.c3
  have hs : W1.ownsRow base 54 4 nv M.length (nds M) := own_same h.nd (fun g cur hc => grown_other h.sp hg hc (by decide))
  have fz : ∀ i, W1.frozen? ⟨rb, i, none⟩ = false := fun i => (frozen_block hr).trans (h.fz i)
  have hk : ∀ e : TypeId, e ≠ 115 → ∀ (g : Nat) (cur : Array Value), W1.heap[g]? = some (Obj.cells cur e) → (W1.setCell ⟨rb, 3, none⟩ sv').heap[g]? = W1.heap[g]? := fun e he g cur hgg => heap_setCell_other W1 ⟨rb, 3, none⟩ g sv' (fun hc => by
    have hc : g = rb := hc
    rw [hc, hr, ht] at hgg
    cases hgg
    exact he rfl)
  refine ⟨c3, fz 3, ⟨(Rp.cell_set_ne (by decide)).trans c0, (Rp.cell_set_ne (by decide)).trans c1, (Rp.cell_set_ne (by decide)).trans c2, Rp.cell_set_eq c3, fun i => by simpa using fz i, ty_set ⟨cs, hr.trans ht⟩, own_same hs (hk 54 (by decide)), own_same hn (hk 112 (by decide)), h.hb, h.nz⟩⟩
/-- A cell of a row of nodes was written. -/
theorem PR.keepN {base rb : Nat} {bv nv sv : Value} {W W1 : World} {k : Nat} {M M' : List Nd} {st : List Sp} (h : PR base rb bv W k M st nv sv) (hg : W.grownBy W1 nv.ownBlock) (hn : W1.ownsRow base 54 4 nv M'.length (nds M')) (hl : M'.length = M.length) : PR base rb bv W1 k M' st nv sv := by
  obtain ⟨cs, ht⟩ := h.ty
  have hr := grown_other h.nd hg ht (by decide)
  exact ⟨(cell_block hr).trans h.c0, (cell_block hr).trans h.c1, (cell_block hr).trans h.c2, (cell_block hr).trans h.c3, fun i => (frozen_block hr).trans (h.fz i), ⟨cs, hr.trans ht⟩, hn, own_same h.sp (fun g cur hc => grown_other h.nd hg hc (by decide)), h.hb, fun e => h.nz (by omega)⟩
/-- A cell of a row of spans was written. -/
theorem PR.keepS {base rb : Nat} {bv nv sv : Value} {W W1 : World} {k : Nat} {M : List Nd} {st st' : List Sp} (h : PR base rb bv W k M st nv sv) (hg : W.grownBy W1 sv.ownBlock) (hn : W1.ownsRow base 112 6 sv st'.length (spc st')) : PR base rb bv W1 k M st' nv sv := by
  obtain ⟨cs, ht⟩ := h.ty
  have hr := grown_other h.sp hg ht (by decide)
  exact ⟨(cell_block hr).trans h.c0, (cell_block hr).trans h.c1, (cell_block hr).trans h.c2, (cell_block hr).trans h.c3, fun i => (frozen_block hr).trans (h.fz i), ⟨cs, hr.trans ht⟩, own_same h.nd (fun g cur hc => grown_other h.sp hg hc (by decide)), hn, h.hb, h.nz⟩

theorem nds_setN' : ∀ (L : List Nd) (i : Nat) (h : i < L.length) (z : Int), (nds L).set (i * 4 + 2) (.int .i64 z) = nds (L.set i { (L[i]'h) with n := z })
  | [], i, h, _ => by simp at h
  | a :: L, 0, h, z => by simp [nds, Nd.cs, List.flatMap_cons]
  | a :: L, i + 1, h, z => by
    have ih := nds_setN' L i (by simpa using h) z
    simp only [nds, List.flatMap_cons, List.set_cons_succ, List.getElem_cons_succ] at ih ⊢
    rw [List.set_append_right _ _ (by simp [Nd.cs]; omega), ← ih]
    congr 2
    simp [Nd.cs]; omega
theorem bump_set {M : List Nd} {p : Nat} (h : p < M.length) : bump M (some p) 1 = M.set p { (M[p]'h) with n := (M[p]'h).n + 1 } := by
  unfold bump
  show M.modify p _ = _
  refine List.ext_getElem? fun j => ?_
  rw [List.getElem?_modify, List.getElem?_set]
  by_cases hj : p = j
  · subst hj
    simp [h]
  · rw [if_neg hj]
    cases M[j]? with
    | none => rfl
    | some a => show some (if p = j then _ else a) = some a; rw [if_neg hj]
end Go.Proofs.YtoikdpjjcnmgeaaGreatDoor
end
