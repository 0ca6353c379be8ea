import Derived.Test.YtfoodjhffehgpaaGreatDoorVo
import Derived.Test.YtfoodjhffehgpaaGreatDoorIh
import Derived.Deep.RegionHeld2
section
/-
  DERIVED. An item taken.
-/
namespace Go.Proofs.YtfoodjhffehgpaaGreatDoor
open Go Go.Proofs Go.RowKit
open Wk (Nd nds)
open Go.Sort

/-- What is told of a step. -/
def StP (base rb : Nat) (bv : Value) (w : World) (R : Res) (e : Ending) (w' : World) : Prop :=
  (match R with
    | .bad a c => Pan w' a c e
    | .go k' M' st' => e = .returned (.tuple #[]) ∧ ∃ nv sv, PR base rb bv w' k' M' st' nv sv) ∧ Below base w w'
theorem PI.add {n k : Nat} {M : List Nd} {sp : Sp} {r : List Sp} (h : PI n k M (sp :: r)) (hl : M.length ≠ 4096) {b : Nd} (hb : NOk 0 b) : PI n k (bump M sp.node 1 ++ [b]) (sp :: r) :=
  ⟨h.ns, h.fn, h.ln, h.mo.add hl _ hb, fun x hx p e => by rw [List.length_append, bump_len]; exact Nat.lt_of_lt_of_le (h.nd x hx p e) (Nat.le_add_right _ _), h.la⟩
theorem HC.kp {W W' : World} {g : Nat} {v : Int} {len sz x : Nat} (h : HC W g v len sz x) (ht : ∃ cs, W.heap[g]? = some (Obj.cells cs 131)) (hk : Kp W W') : HC W' g v len sz x := by
  obtain ⟨cs, ht⟩ := ht
  have e := hk g cs ht
  exact ⟨(cell_block e).trans h.h0, (cell_block e).trans h.h1, (cell_block e).trans h.h2, (cell_block e).trans h.h3⟩
theorem HC.drew {W : World} {g : Nat} {v : Int} {len sz x : Nat} (h : HC W g v len sz x) : HC W.drew g v len sz x := ⟨h.h0, h.h1, h.h2, h.h3⟩

set_option maxRecDepth 100000 in
set_option maxHeartbeats 8000000 in
theorem takeItem_any (w : World) (base rb : Nat) (a : Option Addr) (n cap k : Nat) (ys : List UInt8) (M : List Nd) (sp : Sp) (r : List Sp) (nv : Value) (g sc : Nat) (hP : PR base rb (.slice a n cap) w k M (sp :: r) nv (.slice (some ⟨g, 0, none⟩) (r.length + 1) sc)) (hV : BV base w a n cap ys) (hI : PI n k M (sp :: r)) (h8 : 8 ≤ sp.fin - k) :
    Calls Tryz.prog 45 #[.pointer (some ⟨rb, 0, none⟩), .pointer (some ⟨g, r.length * 6, none⟩)] w (StP base rb (.slice a n cap) w (stepI (srcS ys) k M sp r)) := by
  have hn := hV.s
  have hcn := hV.c
  have hln := hI.ln
  simp only [List.length_cons] at hln
  obtain ⟨hk, hf⟩ := hI.le
  obtain ⟨b, off, rfl, hbb, hby⟩ := hV.at (by omega)
  have hml : r.length ≤ 4000000 := by omega
  obtain ⟨s0, s1, s2, s3, s4, s5⟩ := hP.sc
  have HB : Hid (base ≤ w.heap.size) := hP.lt
  have HP : Hid _ := hP
  have HI : Hid _ := hI
  have c0 := hP.c0
  have c1 := hP.c1
  have c3 := hP.c3
  have hyW : ∀ W, Below w.heap.size w W → ∀ j, j < n → W.cell? ⟨b, off + j, none⟩ = some (.int .u8 (gB ys j : Int)) := fun W hW j hj => (hW.cell (Rp.cell_lt (hby j hj))).trans (hby j hj)
  have cT : Hid (∀ W, Below w.heap.size w W → Calls Tryz.prog 62 #[.pointer (some ⟨rb, 0, none⟩)] W fun e w' => e = .returned (.int .u32 (tagS ys k : Int)) ∧ Below W.heap.size W w') := fun W hW => tag_any W rb b off n cap k ys (by omega) hcn hn ((hW.cell (Rp.cell_lt c0)).trans c0) ((hW.cell (Rp.cell_lt c1)).trans c1) (hyW W hW)
  have cN : ∀ W, Below w.heap.size w W → Calls Tryz.prog 64 #[.pointer (some ⟨rb, 0, none⟩), .int .i64 4, .int .i64 4] W fun e w' => e = .returned (.int .u32 (numS ys (k + 4) : Int)) ∧ W = w' := fun W hW => number4_any W rb b off n cap k 4 ys (by omega) hcn hn ((hW.cell (Rp.cell_lt c0)).trans c0) ((hW.cell (Rp.cell_lt c1)).trans c1) (hyW W hW)
  have cG : Hid (∀ W, Below w.heap.size w W → ∀ c : Nat, Calls Tryz.prog 65 #[.pointer (some ⟨rb, 0, none⟩), .int .i64 (c : Int)] W fun e w' => Hid (Pan w' k c e) ∧ Hid (Below W.heap.size W w')) := fun W hW c => giveUp_any W rb k c ((hW.cell (Rp.cell_lt c1)).trans c1)
  have cD : Hid (∀ W, Below w.heap.size w W → Calls Tryz.prog 67 #[.pointer (some ⟨rb, 0, none⟩)] W fun e w' => e = .returned (.int .i64 (((r.length + 1) / 2 : Nat) : Int)) ∧ W = w') := fun W hW => depth_any W rb (r.length + 1) sc _ (by omega) ((hW.cell (Rp.cell_lt c3)).trans c3)
  have cL : Hid (∀ W, Below w.heap.size w W → ∀ x : Nat, Calls Tryz.prog 68 #[.pointer (some ⟨rb, 0, none⟩), .agg #[.int .i64 29, .int .u32 (numS ys (k + 4) : Int), .int .i64 8, .iface x (.agg #[])]] W (NeedP W k (decide (numS ys (k + 4) ≠ und ∧ sp.fin - k - 8 < numS ys (k + 4))))) := fun W hW x => needLen_any W rb g r.length sc k sp.fin 29 (numS ys (k + 4)) 8 x hml ((hW.cell (Rp.cell_lt c1)).trans c1) ((hW.cell (Rp.cell_lt c3)).trans c3) ((hW.cell (Rp.cell_lt s1)).trans s1) (by omega) (by omega)
  have hZl := numS_lt ys (k + 4)
  have cO : Hid (∀ W, Calls Tryz.prog 66 #[.int .u32 (numS ys (k + 4) : Int)] W fun e w' => e = .returned (.bool (!decide (numS ys (k + 4) = und) && decide (numS ys (k + 4) % 2 = 1))) ∧ W = w') := fun W => odd_any W _ hZl
  have bad : ∀ c, stepI (srcS ys) k M sp r = .bad k c → ∀ W, Below w.heap.size w W → ∀ {e : Ending} {W2 : World}, Pan W2 k c e → Below W.heap.size W W2 → StP base rb (.slice (some ⟨b, off, none⟩) n cap) w (stepI (srcS ys) k M sp r) e W2 := fun c hc W hW e W2 hp hB => by
    rw [hc]
    exact ⟨hp, (hW.mono HB.out).trans (hB.mono (Nat.le_trans HB.out hW.size))⟩
  have HBAD : Hid _ := @bad
  clear bad
  obtain ⟨x, hx⟩ : ∃ x, exI sp.ex = x := ⟨_, rfl⟩
  rw [exV_eq, hx] at s4
  obtain ⟨m, hm⟩ : ∃ m, r.length = m := ⟨_, rfl⟩
  rw [hm] at s4
  obtain ⟨Z, hZ⟩ : ∃ Z, numS ys (k + 4) = Z := ⟨_, rfl⟩
  rw [hZ] at cN cL cO hZl
  have HZ : Hid _ := hZ
  have HM : Hid _ := hm
  have HX : Hid _ := hx
  rw [hm]
  clear s0 s1 s2 s3 s5 c0 c1 c3 hyW hby hP hV hI hk hf hln hml hZ hm hx hcn
  go_enter Tryz.func45, Tryz.ntmps45
  go_wp2_with (go_at_call 62; refine StopV.out ?_)
  refine ⟨Calls.mono (cT.out _ (Below.refl _ _)) ?_⟩
  rintro e W1 ⟨rfl, hb1⟩
  by_cases hT : tagS ys k = 4294893568
  · have b1 : ((tagS ys k : Int) != 4294893568) = false := by rw [hT]; rfl
    have HT2 : Hid _ := hT
    have s41 := (hb1.cell (Rp.cell_lt s4)).trans s4
    have HB1 : Hid _ := hb1
    have cN1 : ∀ W, Below W1.heap.size W1 W → Calls Tryz.prog 64 #[.pointer (some ⟨rb, 0, none⟩), .int .i64 4, .int .i64 4] W fun e w' => e = .returned (.int .u32 (Z : Int)) ∧ W = w' := fun W hW => cN W (hb1.trans (hW.mono hb1.size))
    have s4a : ∀ o, (W1.alloc o).cell? ⟨g, m * 6 + 4, none⟩ = some (.iface x (.agg #[])) := fun o => (((Below.refl _ W1).alloc (Nat.le_refl _) o).cell (Rp.cell_lt s41)).trans s41
    have p3 : g ≠ W1.heap.size := Nat.ne_of_lt (Rp.cell_lt s41)
    have p4 : W1.heap.size ≠ g := fun h => p3 h.symm
    clear hT cN hb1
    go_upto_region 2 with fail
    go_cut [4] from 5 (fun s4 wx => Hid (∃ B, s4 = .pointer (some ⟨B, 0, none⟩) ∧ W1.heap.size ≤ B ∧ Below W1.heap.size W1 wx ∧ HC wx B 29 Z 8 x ∧ ∃ cs, wx.heap[B]? = some (Obj.cells cs 131)))
    case first =>
      go_region_held3 (fun w' => w'.cell? ⟨g, m * 6 + 4, none⟩ = some (.iface x (.agg #[]))) (first | (go_keep; done) | exact s41 | exact s4a _) (first | (go_at_call 64; refine Calls.mono (cN1 _ (by first | exact (Below.refl _ _).drew | exact ((Below.refl _ _).alloc (Nat.le_refl _) _).drew)) ?_; rintro e W2 ⟨rfl, rfl⟩))
      all_goals
        go_wp2
        go_meet
        case rel => exact ⟨W1.heap.size, rfl, Nat.le_refl _, ((Below.refl _ _).alloc (Nat.le_refl _) _).drew, (HC.new W1 29 Z 8 x).drew, ⟨_, heap_alloc_new W1 _⟩⟩
    case rest =>
      obtain ⟨B, rfl, hBl, hbc, hhc, hty⟩ := hcut.out
      have HTY : Hid _ := hty
      clear hty
      have HBc : Hid (Below w.heap.size w wc) := HB1.out.trans (hbc.mono HB1.out.size)
      have HHc : Hid _ := hhc
      obtain ⟨x0, x1, x2, x3⟩ := hhc
      clear hcut s4a cN1 p3 p4 hbc
      go_wp2_with (go_at_call 66; refine StopV.out ?_)
      refine ⟨Calls.mono (cO.out _) ?_⟩
      rintro e W2 ⟨rfl, rfl⟩
      by_cases ho : Z ≠ und ∧ Z % 2 = 1
      · have ho2 : (!decide (Z = und) && decide (Z % 2 = 1)) = true := by simp [ho.1, ho.2]
        have HQ : Hid (stepI (srcS ys) k M sp r = .bad k 125) := by
          show _ = _
          unfold stepI
          rw [if_neg (fun h => h HT2.out), if_pos (by rw [show (srcS ys).num (k + 4) = Z from HZ.out]; exact ho)]
        rw [ho2]
        clear ho ho2
        go_wp2_with (go_at_call 65; refine StopV.out ?_)
        refine ⟨Calls.mono (cG.out _ HBc.out 125) ?_⟩
        rintro e W3 ⟨⟨q, rfl, hc⟩, HB3⟩
        exact ⟨rfl, HBAD.out 125 HQ.out _ HBc.out ⟨q, rfl, hc⟩ HB3.out⟩
      have ho2 : (!decide (Z = und) && decide (Z % 2 = 1)) = false := by
        rcases hx2 : (!decide (Z = und) && decide (Z % 2 = 1)) with _ | _
        · rfl
        · simp at hx2; exact absurd hx2 ho
      have HQ1 : Hid (¬ (Z ≠ und ∧ Z % 2 = 1)) := ho
      rw [ho2]
      clear ho ho2
      go_wp2_with (go_at_call 67; refine StopV.out ?_)
      refine ⟨Calls.mono (cD.out _ HBc.out) ?_⟩
      rintro e W2 ⟨rfl, rfl⟩
      obtain ⟨d, hd⟩ : ∃ d, (r.length + 1) / 2 = d := ⟨_, rfl⟩
      rw [hd]
      have HD : Hid _ := hd
      clear hd
      by_cases hd4 : 4 < d
      · have b4 : decide (4 < d) = true := decide_eq_true hd4
        have HQ : Hid (stepI (srcS ys) k M sp r = .bad k 126) := by
          show _ = _
          unfold stepI
          rw [if_neg (fun h => h HT2.out), if_neg (by rw [show (srcS ys).num (k + 4) = Z from HZ.out]; exact HQ1.out), if_pos (by rw [HD.out]; exact hd4)]
        go_wp2_with (go_at_call 65; refine StopV.out ?_)
        refine ⟨Calls.mono (cG.out _ HBc.out 126) ?_⟩
        rintro e W3 ⟨⟨q, rfl, hc⟩, HB3⟩
        exact ⟨rfl, HBAD.out 126 HQ.out _ HBc.out ⟨q, rfl, hc⟩ HB3.out⟩
      have b4 : decide (4 < d) = false := decide_eq_false hd4
      have HQ2 : Hid (¬ 4 < (r.length + 1) / 2) := by show ¬ _; rw [HD.out]; exact hd4
      go_wp2_with (go_at_call 68; refine StopV.out ?_)
      refine ⟨Calls.mono (cL.out _ HBc.out x) ?_⟩
      rintro e W3 ⟨he, hb3⟩
      by_cases hsh : Z ≠ und ∧ sp.fin - k - 8 < Z
      · rw [decide_eq_true hsh] at he
        obtain ⟨q, rfl, hc⟩ : Pan W3 k 122 e := he
        refine ⟨rfl, HBAD.out 122 ?_ _ HBc.out ⟨q, rfl, hc⟩ hb3⟩
        unfold stepI
        rw [if_neg (fun h => h HT2.out), if_neg (by rw [show (srcS ys).num (k + 4) = Z from HZ.out]; exact HQ1.out), if_neg HQ2.out, if_pos (by rw [show (srcS ys).num (k + 4) = Z from HZ.out]; exact hsh)]
      rw [decide_eq_false hsh] at he
      obtain rfl : e = .returned (.tuple #[]) := he
      have HQ3 : Hid (¬ (Z ≠ und ∧ sp.fin - k - 8 < Z)) := hsh
      have hB3 : Below w.heap.size w W3 := HBc.out.trans (hb3.mono HBc.out.size)
      have HP3 : Hid _ := HP.out.on hB3
      have HH3 : Hid _ := HHc.out.on hb3
      have HB3 : Hid _ := hB3
      have HT159 : Hid (∃ cs, W3.heap[B]? = some (Obj.cells cs 131)) := by obtain ⟨cs, h⟩ := HTY.out; exact ⟨cs, (hb3.block B (Array.getElem?_eq_some_iff.1 h).1).trans h⟩
      have cA := add_any W3 base rb _ n k M sp r nv g sc 4294893568 29 ⟨#[]⟩ HP3.out HI.out hn
      clear x0 x1 x2 x3 HHc hsh hd4 b4 hb3 hB3 HP
      go_wp2_with (go_at_call 69; refine StopV.out ?_)
      refine ⟨Calls.mono cA ?_⟩
      rintro e W4 ⟨he, hb4, hkp⟩
      by_cases hm4 : M.length = 4096
      · rw [if_pos hm4] at he
        obtain ⟨q, rfl, hc⟩ : Pan W4 k 127 e := he
        refine ⟨rfl, ?_⟩
        have : stepI (srcS ys) k M sp r = .bad k 127 := by
          unfold stepI
          rw [if_neg (fun h => h HT2.out), if_neg (by rw [show (srcS ys).num (k + 4) = Z from HZ.out]; exact HQ1.out), if_neg HQ2.out, if_neg (by rw [show (srcS ys).num (k + 4) = Z from HZ.out]; exact HQ3.out), if_pos hm4]
        rw [this]
        exact ⟨⟨q, rfl, hc⟩, (HB3.out.mono HB.out).trans hb4⟩
      rw [if_neg hm4] at he
      obtain ⟨rfl, nv', hp4⟩ := he
      have HM4 : Hid _ := hm4
      have HI4 : Hid _ := PI.add HI.out hm4 (b := ⟨4294893568, 29, 0, ⟨#[]⟩⟩) ⟨by decide, by decide, by decide, by decide, by decide, by decide, by decide⟩
      have HB4 : Hid (Below base w W4) := (HB3.out.mono HB.out).trans hb4
      have HL4 : Hid ((bump M sp.node 1 ++ [(⟨4294893568, 29, 0, ⟨#[]⟩⟩ : Nd)]).length = M.length + 1) := by show _ = _; rw [List.length_append, bump_len]; rfl
      have cE := enter_any W4 base rb _ n k _ sp r nv' g sc 29 Z 8 sp.ex hp4 HI4.out hn (by rw [HL4.out]; omega) (by decide) hZl
      unfold hdV at cE
      rw [HX.out] at cE
      have HH4 : Hid (HC W4 B 29 Z 8 x) := HC.kp HH3.out HT159.out hkp
      obtain ⟨x0, x1, x2, x3⟩ := HH4.out
      clear cA HP3 hkp hb4 hp4
      go_wp2_with (go_at_call 70; refine StopV.out ?_)
      refine ⟨Calls.mono cE ?_⟩
      rintro e W5 ⟨rfl, ⟨sv', hp5⟩, hb5⟩
      go_wp2
      refine bodyPost_end (results_none rfl _ _ _) rfl ?_
      have : stepI (srcS ys) k M sp r = .go (k + 8) (bump M sp.node 1 ++ [⟨4294893568, 29, 0, ⟨#[]⟩⟩]) (spOf (bump M sp.node 1 ++ [⟨4294893568, 29, 0, ⟨#[]⟩⟩]) sp.fin (k + 8) 29 Z sp.ex :: sp :: r) := by
        unfold stepI spOf
        rw [if_neg (fun h => h HT2.out), if_neg (by rw [show (srcS ys).num (k + 4) = Z from HZ.out]; exact HQ1.out), if_neg HQ2.out, if_neg (by rw [show (srcS ys).num (k + 4) = Z from HZ.out]; exact HQ3.out), if_neg HM4.out, HL4.out, show (srcS ys).num (k + 4) = Z from HZ.out]
        rfl
      rw [this]
      exact ⟨⟨rfl, nv', sv', hp5⟩, HB4.out.trans hb5.out⟩
  · have b1 : ((tagS ys k : Int) != 4294893568) = true := bne_iff_ne.2 (by omega)
    have HQ : Hid (stepI (srcS ys) k M sp r = .bad k 123) := by
      show _ = _
      unfold stepI
      rw [if_pos (fun h : (srcS ys).tag k = _ => hT h)]
    clear hT
    go_wp2_with (go_at_call 65; refine StopV.out ?_)
    refine ⟨Calls.mono (cG.out _ hb1 123) ?_⟩
    rintro e W3 ⟨⟨q, rfl, hc⟩, HB3⟩
    exact ⟨rfl, HBAD.out 123 HQ.out _ hb1 ⟨q, rfl, hc⟩ HB3.out⟩
end Go.Proofs.YtfoodjhffehgpaaGreatDoor
end

section
/-
  DERIVED. An element taken.
-/
namespace Go.Proofs.YtfoodjhffehgpaaGreatDoor
open Go Go.Proofs Go.RowKit
open Wk (Nd nds)
open Go.Sort

/-- The list is full. -/
def AdPan (base k : Nat) (W : World) (e : Ending) (w' : World) : Prop := ∃ qq, e = .panicked [{ v := .iface 75 (.pointer (some ⟨qq, 0, none⟩)), recovered := false }] ∧ Pan w' k 127 e ∧ Below base W w'
theorem mI_th (w : World) : (Go.method 399 98 (.agg #[]) "modality/dataset.takeHead").run Tryz.prog w = .ok (243, .agg #[]) w := by kernel_rfl
theorem mE_th (w : World) : (Go.method 399 99 (.agg #[]) "modality/dataset.takeHead").run Tryz.prog w = .ok (250, .agg #[]) w := by kernel_rfl
theorem hd_more {ys : List UInt8} {x : Bool} {k e : Nat} {h : Hd} (hh : (srcS ys).hd x k e = .inr h) : h.sz ≤ 12 ∧ h.len < 4294967296 := by
  cases x with
  | false =>
    have hh : (Sum.inr (hdI ys k) : Nat ⊕ Hd) = .inr h := hh
    cases hh
    exact ⟨by show 8 ≤ 12; decide, numS_lt _ _⟩
  | true =>
    have hh : hdE ys k e = .inr h := hh
    unfold hdE at hh
    split at hh
    · cases hh
    split at hh
    · cases hh
    split at hh
    · cases hh
    have h1 : (hE0 ys k).sz ≤ 12 := by show (if _ then 12 else 8) ≤ 12; split <;> decide
    have h2 : (hE0 ys k).len < 4294967296 := by
      show (if _ then _ else _) < _
      split
      · exact numS_lt _ _
      · exact Nat.lt_of_lt_of_le (u16S_lt _ _) (by decide)
    split at hh <;> (cases hh; exact ⟨h1, h2⟩)
theorem lenC_bad {S : Src} {k : Nat} {M : List Nd} {sp : Sp} {r : List Sp} {h : Hd} {C : Nat} (hC : lenC h.v h.len h.sz (sp.fin - k - h.sz) = C) (h0 : C ≠ 0) : stepB S k M sp r h = .bad k C := by
  unfold lenC at hC
  unfold stepB
  have e : badLen ⟨h.v, h.sz, h.len, true⟩ = badLen h := rfl
  rw [e] at hC
  split at hC
  · rename_i h1; rw [if_pos h1, hC]
  · rename_i h1
    rw [if_neg h1]
    split at hC
    · rename_i h2; rw [if_pos h2, hC]
    · rename_i h2
      rw [if_neg h2]
      split at hC
      · rename_i h3; rw [if_pos h3, hC]
      · exact absurd hC.symm h0
theorem lenC_ok {h : Hd} {F : Nat} (hC : lenC h.v h.len h.sz F = 0) : ¬ badLen h = true ∧ ¬ (h.v ≠ 18 ∧ 65534 < h.len) ∧ ¬ (h.len ≠ und ∧ F < h.len) := by
  unfold lenC at hC
  have e : badLen ⟨h.v, h.sz, h.len, true⟩ = badLen h := rfl
  rw [e] at hC
  split at hC
  · cases hC
  · rename_i h1
    split at hC
    · cases hC
    · rename_i h2
      split at hC
      · cases hC
      · rename_i h3; exact ⟨h1, h2, h3⟩
theorem not_und {h : Hd} (hb : ¬ badLen h = true) (hv : h.v ≠ 18) : h.len ≠ und := fun hu => hb (by unfold badLen; simp [hu, hv])
/-- The room's last tag is kept in mind. -/
theorem PR.last {base rb g sc : Nat} {bv nv : Value} {W : World} {k : Nat} {M : List Nd} {sp : Sp} {r : List Sp} (h : PR base rb bv W k M (sp :: r) nv (.slice (some ⟨g, 0, none⟩) (r.length + 1) sc)) (t : Nat) :
    PR base rb bv (W.setCell ⟨g, r.length * 6 + 5, none⟩ (.int .u32 (t : Int))) k M ({ sp with last := t } :: r) nv (.slice (some ⟨g, 0, none⟩) (r.length + 1) sc) ∧ Below base W (W.setCell ⟨g, r.length * 6 + 5, none⟩ (.int .u32 (t : Int))) ∧ Kp W (W.setCell ⟨g, r.length * 6 + 5, none⟩ (.int .u32 (t : Int))) := by
  obtain ⟨a, b⟩ := World.ownsRow.stored (n := r.length + 1) h.sp (r.length * 6 + 5) (.int .u32 (t : Int))
  rw [spc_last] at a
  exact ⟨h.keepS b a, below_grown h.sp b h.lt, Kp.grown h.sp b (by decide)⟩

set_option maxRecDepth 100000 in
set_option maxHeartbeats 8000000 in
theorem takeI_any (w : World) (base rb : Nat) (a : Option Addr) (n cap k : Nat) (ys : List UInt8) (M : List Nd) (sp : Sp) (r : List Sp) (nv : Value) (g sc : Nat) (hP : PR base rb (.slice a n cap) w k M (sp :: r) nv (.slice (some ⟨g, 0, none⟩) (r.length + 1) sc)) (hV : BV base w a n cap ys) (hI : PI n k M (sp :: r)) (h8 : 8 ≤ sp.fin - k) (hex : sp.ex = false) :
    Calls Tryz.prog 46 #[.pointer (some ⟨rb, 0, none⟩), .pointer (some ⟨g, r.length * 6, none⟩)] w (StP base rb (.slice a n cap) w (stepE (srcS ys) k M sp r)) := by
  have hn := hV.s
  have hcn := hV.c
  have hyl := hV.l
  have hln := hI.ln
  simp only [List.length_cons] at hln
  obtain ⟨hk, hf⟩ := hI.le
  obtain ⟨b, off, rfl, hbb, hby⟩ := hV.at (by omega)
  have hml : r.length ≤ 4000000 := by omega
  obtain ⟨s0, s1, s2, s3, s4, s5⟩ := hP.sc
  have HB : Hid (base ≤ w.heap.size) := hP.lt
  have HP : Hid _ := hP
  have HI : Hid _ := hI
  have HV : Hid _ := hV
  have c0 := hP.c0
  have c1 := hP.c1
  have c3 := hP.c3
  have hyW : ∀ W, Below w.heap.size w W → ∀ j, j < n → W.cell? ⟨b, off + j, none⟩ = some (.int .u8 (gB ys j : Int)) := fun W hW j hj => (hW.cell (Rp.cell_lt (hby j hj))).trans (hby j hj)
  have ht := tagS_lt ys k
  have cT : Hid (∀ W, Below w.heap.size w W → Calls Tryz.prog 62 #[.pointer (some ⟨rb, 0, none⟩)] W fun e w' => e = .returned (.int .u32 (tagS ys k : Int)) ∧ Below W.heap.size W w') := fun W hW => tag_any W rb b off n cap k ys (by omega) hcn hn ((hW.cell (Rp.cell_lt c0)).trans c0) ((hW.cell (Rp.cell_lt c1)).trans c1) (hyW W hW)
  have cG : Hid (∀ W, Below w.heap.size w W → ∀ c : Nat, Calls Tryz.prog 65 #[.pointer (some ⟨rb, 0, none⟩), .int .i64 (c : Int)] W fun e w' => Hid (Pan w' k c e) ∧ Hid (Below W.heap.size W w')) := fun W hW c => giveUp_any W rb k c ((hW.cell (Rp.cell_lt c1)).trans c1)
  have cS : Hid (∀ W, Calls Tryz.prog 71 #[.int .u32 (tagS ys k : Int)] W fun e w' => e = .returned (.bool (!isBar (tagS ys k))) ∧ W = w') := fun W => stand_any W (tagS ys k)
  have cR : Hid (∀ W, Calls Tryz.prog 73 #[.int .u32 (tagS ys k : Int)] W fun e w' => e = .returned (.bool (decide (tagS ys k % 65536 = 0))) ∧ W = w') := fun W => group_any W (tagS ys k) ht
  have cH : Hid (∀ W, Below w.heap.size w W → Calls Tryz.prog 243 #[.agg #[], .pointer (some ⟨rb, 0, none⟩), .int .u32 (tagS ys k : Int)] W (ThP W k ((srcS ys).hd sp.ex k sp.fin))) := by
    rw [hex]
    exact fun W hW => (thI_any W rb b off n cap k ys (by omega) hcn hn ((hW.cell (Rp.cell_lt c0)).trans c0) ((hW.cell (Rp.cell_lt c1)).trans c1) (hyW W hW)).mono fun _ _ h => ⟨h.1, h.2⟩
  have cL : Hid (∀ W, Below w.heap.size w W → ∀ (v : Int) (len sz x : Nat), k + sz ≤ sp.fin → len < 4294967296 → Calls Tryz.prog 72 #[.pointer (some ⟨rb, 0, none⟩), .agg #[.int .i64 v, .int .u32 (len : Int), .int .i64 (sz : Int), .iface x (.agg #[])]] W (LenP W k (lenC v len sz (sp.fin - k - sz)))) := fun W hW v len sz x h1 h2 => checkLen_any W rb g r.length sc k sp.fin v len sz x hml ((hW.cell (Rp.cell_lt c1)).trans c1) ((hW.cell (Rp.cell_lt c3)).trans c3) ((hW.cell (Rp.cell_lt s1)).trans s1) h1 (by omega) h2
  have hq := fun h => src_ok ys |>.hd sp.ex k sp.fin h h8
  have HQ : Hid _ := hq
  obtain ⟨T, hT⟩ : ∃ T, tagS ys k = T := ⟨_, rfl⟩
  have HT : Hid ((srcS ys).tag k = T) := hT
  obtain ⟨q, hqq⟩ : ∃ q, (srcS ys).hd sp.ex k sp.fin = q := ⟨_, rfl⟩
  have HHQ : Hid _ := hqq
  have hla := hI.la sp List.mem_cons_self
  obtain ⟨l, hl⟩ : ∃ l, sp.last = l := ⟨_, rfl⟩
  have HL : Hid _ := hl
  rw [hl] at s5 hla
  rw [hex, exV_eq] at s4
  rw [hT] at cT cS cR cH ht
  rw [hqq] at cH
  obtain ⟨m, hm⟩ : ∃ m, r.length = m := ⟨_, rfl⟩
  have HM : Hid _ := hm
  rw [hm] at s4 s5 ⊢
  have s4 : w.cell? ⟨g, m * 6 + 4, none⟩ = some (.iface 98 (.agg #[])) := s4
  have mth := mI_th
  have HYL : Hid (n = ys.length) := hyl
  have bad : ∀ c, stepE (srcS ys) k M sp r = .bad k c → ∀ W, Below w.heap.size w W → ∀ {e : Ending} {W2 : World}, Pan W2 k c e → Below W.heap.size W W2 → StP base rb (.slice (some ⟨b, off, none⟩) n cap) w (stepE (srcS ys) k M sp r) e W2 := fun c hc W hW e W2 hp hB => by
    rw [hc]
    exact ⟨hp, (hW.mono HB.out).trans (hB.mono (Nat.le_trans HB.out hW.size))⟩
  have HBAD : Hid _ := @bad
  have HK : Hid (k ≤ sp.fin ∧ sp.fin ≤ n) := ⟨hk, hf⟩
  clear bad s0 s1 s2 s3 c0 c1 c3 hyW hby hP hV hI hk hf hln hml hT hqq hl hm hq hex hyl
  go_enter Tryz.func46, Tryz.ntmps46
  go_wp2_with (go_at_call 62; refine StopV.out ?_)
  refine ⟨Calls.mono (cT.out _ (Below.refl _ _)) ?_⟩
  rintro e W1 ⟨rfl, hb1⟩
  have HB1 : Hid _ := hb1
  have s41 := (hb1.cell (Rp.cell_lt s4)).trans s4
  have s51 := (hb1.cell (Rp.cell_lt s5)).trans s5
  clear s4 s5 hb1
  go_wp2_with (go_at_call 71; refine StopV.out ?_)
  refine ⟨Calls.mono (cS.out _) ?_⟩
  rintro e W2 ⟨rfl, rfl⟩
  rcases hbar : isBar T with _ | _
  · by_cases hlt : T ≤ l
    · have b1 : decide (T ≤ l) = true := decide_eq_true hlt
      have HQ1 : Hid (stepE (srcS ys) k M sp r = .bad k 123) := by
        show _ = _
        unfold stepE
        rw [if_pos (.inr (by rw [HT.out, HL.out]; exact hlt))]
      clear hlt hbar
      go_wp2_with (go_at_call 65; refine StopV.out ?_)
      refine ⟨Calls.mono (cG.out _ HB1.out 123) ?_⟩
      rintro e W3 ⟨⟨q, rfl, hc⟩, HB3⟩
      exact ⟨rfl, HBAD.out 123 HQ1.out _ HB1.out ⟨q, rfl, hc⟩ HB3.out⟩
    have b1 : decide (T ≤ l) = false := decide_eq_false hlt
    have HQ0 : Hid (¬ (isBar ((srcS ys).tag k) = true ∨ (srcS ys).tag k ≤ sp.last)) := by
      show ¬ _
      rw [HT.out, HL.out, hbar]
      intro h
      rcases h with h | h
      · cases h
      · exact hlt h
    have HBR : Hid (isBar ((srcS ys).tag k) = false) := by show _ = _; rw [HT.out]; exact hbar
    clear hlt hbar
    go_wp2_with (go_at_call 243; refine StopV.out ?_)
    refine ⟨Calls.mono (cH.out _ HB1.out) ?_⟩
    rintro e W3 ⟨he, hb3⟩
    rcases q with c | h
    · obtain ⟨qq, rfl, hc⟩ : Pan W3 k c e := he
      refine ⟨rfl, HBAD.out c ?_ _ HB1.out ⟨qq, rfl, hc⟩ hb3⟩
      unfold stepE
      rw [if_neg HQ0.out, HHQ.out]
    obtain rfl : e = .returned (hdV h.v h.len h.sz (exI h.ex)) := he
    obtain ⟨g1, g2, g3, g4, g5⟩ := HQ.out h HBR.out HHQ.out
    obtain ⟨g6, g7⟩ := hd_more HHQ.out
    have HG : Hid (8 ≤ h.sz ∧ k + h.sz ≤ sp.fin ∧ (T % 65536 = 0 → h.v ≠ 18) ∧ 1 ≤ h.v ∧ h.v ≤ 28) := ⟨g1, g2, fun h0 => g3 (by rw [HT.out]; exact h0), g4, g5⟩
    have HB3 : Hid (Below w.heap.size w W3) := HB1.out.trans (hb3.mono HB1.out.size)
    have HE : Hid (stepE (srcS ys) k M sp r = stepB (srcS ys) k M sp r h) := by
      show _ = _
      unfold stepE
      rw [if_neg HQ0.out, HHQ.out]
    obtain ⟨v, hv⟩ : ∃ v, h.v = v := ⟨_, rfl⟩
    obtain ⟨len, hlen⟩ : ∃ x, h.len = x := ⟨_, rfl⟩
    obtain ⟨sz, hsz⟩ : ∃ x, h.sz = x := ⟨_, rfl⟩
    obtain ⟨x, hx⟩ : ∃ x, exI h.ex = x := ⟨_, rfl⟩
    have HV1 : Hid (h.v = v ∧ h.len = len ∧ h.sz = sz ∧ exI h.ex = x) := ⟨hv, hlen, hsz, hx⟩
    rw [hv, hlen, hsz, hx]
    unfold hdV
    obtain ⟨Wh, hWh⟩ : ∃ Wh, W3.alloc (.cells #[.int .i64 v, .int .u32 (len : Int), .int .i64 (sz : Int), .iface x (.agg #[])] 131) = Wh := ⟨_, rfl⟩
    have hbh : Below W3.heap.size W3 Wh := by rw [← hWh]; exact (Below.refl _ _).alloc (Nat.le_refl _) _
    have HH : Hid (HC Wh W3.heap.size v len sz x ∧ ∃ cs, Wh.heap[W3.heap.size]? = some (Obj.cells cs 131)) := by rw [← hWh]; exact ⟨HC.new W3 v len sz x, _, heap_alloc_new W3 _⟩
    have HBh : Hid (Below w.heap.size w Wh) := HB3.out.trans (hbh.mono HB3.out.size)
    have HN : Hid (k + sz ≤ sp.fin ∧ len < 4294967296 ∧ sz ≤ 12) := by rw [hsz] at g2 g6; rw [hlen] at g7; exact ⟨g2, g7, g6⟩
    clear g1 g2 g3 g4 g5 g6 g7 hv hlen hsz hx hbh
    obtain ⟨x0, x1, x2, x3⟩ := HH.out.1
    go_wp2_with (go_at_call 72; refine StopV.out ?_)
    refine ⟨Calls.mono (cL.out _ HBh.out v len sz x HN.out.1 HN.out.2.1) ?_⟩
    rintro e W4 ⟨he, hb4⟩
    obtain ⟨C, hC⟩ : ∃ C, lenC v len sz (sp.fin - k - sz) = C := ⟨_, rfl⟩
    rw [hC] at he
    have HC' : Hid (lenC h.v h.len h.sz (sp.fin - k - h.sz) = C) := by
      obtain ⟨e1, e2, e3, -⟩ := HV1.out
      show _ = _
      rw [e1, e2, e3]
      exact hC
    clear hC
    by_cases h0 : C = 0
    case neg =>
      rw [if_neg h0] at he
      obtain ⟨qq, rfl, hc⟩ : Pan W4 k C e := he
      refine ⟨rfl, HBAD.out C ?_ _ HBh.out ⟨qq, rfl, hc⟩ hb4⟩
      rw [HE.out]
      exact lenC_bad HC'.out h0
    rw [if_pos h0] at he
    subst h0
    obtain rfl : e = .returned (.tuple #[]) := he
    obtain ⟨o1, o2, o3⟩ := lenC_ok HC'.out
    have HO : Hid (¬ badLen h = true ∧ ¬ (h.v ≠ 18 ∧ 65534 < h.len) ∧ ¬ (h.len ≠ und ∧ sp.fin - k - h.sz < h.len)) := ⟨o1, o2, o3⟩
    have hB4 : Below w.heap.size w W4 := HBh.out.trans (hb4.mono HBh.out.size)
    have HB4 : Hid _ := hB4
    have HP4 : Hid _ := HP.out.on hB4
    have HH4 : Hid (HC W4 W3.heap.size v len sz x ∧ ∃ cs, W4.heap[W3.heap.size]? = some (Obj.cells cs 131)) := ⟨HH.out.1.on hb4, by obtain ⟨cs, hh⟩ := HH.out.2; exact ⟨cs, (hb4.block _ (Array.getElem?_eq_some_iff.1 hh).1).trans hh⟩⟩
    have s54 : W4.cell? ⟨g, m * 6 + 5, none⟩ = some (.int .u32 (l : Int)) := by have := HP4.out.sc.s5; rw [HM.out, HL.out] at this; exact this
    have f54 : W4.frozen? ⟨g, m * 6 + 5, none⟩ = false := World.ownsRow.frozenAt HP4.out.sp (m * 6 + 5)
    obtain ⟨W5, hW5⟩ : ∃ W5, W4.setCell ⟨g, m * 6 + 5, none⟩ (.int .u32 (T : Int)) = W5 := ⟨_, rfl⟩
    obtain ⟨r1, r2, r3⟩ := HP4.out.last T
    rw [HM.out, hW5] at r1 r2 r3
    have HP5 : Hid _ := r1
    have HB5 : Hid (Below base w W5) := (hB4.mono HB.out).trans r2
    have HH5 : Hid (HC W5 W3.heap.size v len sz x) := HC.kp HH4.out.1 HH4.out.2 r3
    have HT5 : Hid (∃ cs, W5.heap[W3.heap.size]? = some (Obj.cells cs 131)) := by obtain ⟨cs, hh⟩ := HH4.out.2; exact ⟨cs, (r3 _ cs hh).trans hh⟩
    have HI5 : Hid (PI n k M ({ sp with last := T } :: r)) := ⟨HI.out.ns, fun y hy => by rcases List.mem_cons.1 hy with rfl | hy; exact HI.out.fn sp List.mem_cons_self; exact HI.out.fn y (List.mem_cons_of_mem _ hy), HI.out.ln, HI.out.mo, fun y hy => by rcases List.mem_cons.1 hy with rfl | hy; exact HI.out.nd sp List.mem_cons_self; exact HI.out.nd y (List.mem_cons_of_mem _ hy), fun y hy => by rcases List.mem_cons.1 hy with rfl | hy; exact ht; exact HI.out.la y (List.mem_cons_of_mem _ hy)⟩
    clear x0 x1 x2 x3 o1 o2 o3 r1 r2 r3 hb4 hB4 HH HH4 HBh hWh s41 s51
    obtain ⟨x0, x1, x2, x3⟩ := HH5.out
    go_wp2_with (go_at_call 73; refine StopV.out ?_)
    refine ⟨Calls.mono (cR.out _) ?_⟩
    rintro e Wx ⟨rfl, rfl⟩
    have HFB : Hid (∀ {e : Ending} {W2 : World} {k' : Nat} {M' : List Nd} {st' : List Sp}, stepB (srcS ys) k M sp r h = .go k' M' st' → e = .returned (.tuple #[]) → (∃ nv sv, PR base rb (.slice (some ⟨b, off, none⟩) n cap) W2 k' M' st' nv sv) → Below base W5 W2 → StP base rb (.slice (some ⟨b, off, none⟩) n cap) w (stepE (srcS ys) k M sp r) e W2) := fun {e W2 k' M' st'} hs he hp hB => by
      rw [HE.out, hs]
      exact ⟨⟨he, hp⟩, HB5.out.trans hB⟩
    by_cases hg : T % 65536 = 0
    · have hfit : len ≤ 1048576 := by
        have h1 := not_und HO.out.1 (HG.out.2.2.1 hg)
        have h2 : ¬ sp.fin - k - h.sz < h.len := fun h3 => HO.out.2.2 ⟨h1, h3⟩
        obtain ⟨-, e2, -, -⟩ := HV1.out
        have := HK.out
        omega
      have HS : Hid (stepB (srcS ys) k M sp r h = .go (k + sz + len) M ({ sp with last := T } :: r)) := by
        obtain ⟨e1, e2, e3, -⟩ := HV1.out
        show _ = _
        unfold stepB
        rw [if_neg HO.out.1, if_neg HO.out.2.1, if_neg HO.out.2.2, HT.out, if_pos hg, e2, e3]
      have cLv := leave_any W5 base rb k _ _ _ M _ v len sz x HP5.out (by have := HK.out; omega) HN.out.2.2 hfit
      unfold hdV at cLv
      rw [decide_eq_true hg]
      clear hg hfit
      go_wp2_with (go_at_call 74; refine StopV.out ?_)
      refine ⟨Calls.mono cLv ?_⟩
      rintro e W6 ⟨rfl, hp6, hb6⟩
      go_wp2
      exact bodyPost_end (results_none rfl _ _ _) rfl (HFB.out HS.out rfl ⟨_, _, hp6.out⟩ hb6.out)
    rw [decide_eq_false hg]
    have HGN : Hid (¬ T % 65536 = 0) := hg
    clear hg
    by_cases hv : v = 18
    · have b2 : (v == 18) = true := beq_iff_eq.2 hv
      have HV18 : Hid (v = 18) := hv
      have cA := add_any W5 base rb _ n k M _ r nv g sc (T : Int) v ⟨#[]⟩ (by rw [HM.out]; exact HP5.out) HI5.out hn
      clear hv
      rw [HM.out] at cA
      go_wp2_with (go_at_call 69; refine StopV.out ?_)
      refine ⟨Calls.mono cA ?_⟩
      rintro e W6 ⟨he, hb6, hk6⟩
      by_cases hm4 : M.length = 4096
      · rw [if_pos hm4] at he
        obtain ⟨qq, rfl, hc⟩ : Pan W6 k 127 e := he
        refine ⟨rfl, ?_⟩
        rw [HE.out]
        have : stepB (srcS ys) k M sp r h = .bad k 127 := by
          unfold stepB
          rw [if_neg HO.out.1, if_neg HO.out.2.1, if_neg HO.out.2.2, HT.out, if_neg HGN.out, if_pos hm4]
        rw [this]
        exact ⟨⟨qq, rfl, hc⟩, HB5.out.trans hb6⟩
      rw [if_neg hm4] at he
      obtain ⟨rfl, nv', hp6⟩ := he
      have HI6 : Hid _ := PI.add HI5.out hm4 (b := ⟨(T : Int), v, 0, ⟨#[]⟩⟩) ⟨by show (0 : Int) ≤ (T : Int); omega, by show (T : Int) < 4294967296; omega, by show 1 ≤ v; rw [HV18.out]; decide, by show v ≤ 29; rw [HV18.out]; decide, by show (0 : Int) ≤ 0; decide, by show (0 : Int) ≤ 0; decide, by show (0 : Nat) ≤ 65534; decide⟩
      have HL6 : Hid ((bump M sp.node 1 ++ [(⟨(T : Int), v, 0, ⟨#[]⟩⟩ : Nd)]).length = M.length + 1) := by show _ = _; rw [List.length_append, bump_len]; rfl
      have cE := enter_any W6 base rb _ n k _ _ r nv' g sc v len sz h.ex (by rw [HM.out]; exact hp6) HI6.out hn (by show 0 < (bump M sp.node 1 ++ [(⟨(T : Int), v, 0, ⟨#[]⟩⟩ : Nd)]).length; rw [HL6.out]; omega) HN.out.2.2 HN.out.2.1
      unfold hdV at cE
      rw [HV1.out.2.2.2] at cE
      have HH6 : Hid (HC W6 W3.heap.size v len sz x) := HC.kp HH5.out HT5.out hk6
      have HM4 : Hid _ := hm4
      have HB6 : Hid _ := hb6
      clear x0 x1 x2 x3 cA hk6 hp6 hm4 hb6
      obtain ⟨x0, x1, x2, x3⟩ := HH6.out
      go_wp2_with (go_at_call 70; refine StopV.out ?_)
      refine ⟨Calls.mono cE ?_⟩
      rintro e W7 ⟨rfl, ⟨sv', hp7⟩, hb7⟩
      go_wp2
      refine bodyPost_end (results_none rfl _ _ _) rfl (HFB.out ?_ rfl ⟨_, _, hp7⟩ (HB6.out.trans hb7.out))
      obtain ⟨e1, e2, e3, -⟩ := HV1.out
      unfold stepB spOf
      rw [if_neg HO.out.1, if_neg HO.out.2.1, if_neg HO.out.2.2, HT.out, if_neg HGN.out, if_neg HM4.out, if_pos (by rw [e1]; exact HV18.out), e2, e3]
      show _ = Res.go (k + sz) (bump M sp.node 1 ++ [⟨(T : Int), v, 0, ⟨#[]⟩⟩]) _
      rw [HL6.out, HV18.out]
      rfl
    · have b2 : (v == 18) = false := beq_eq_false_iff_ne.2 hv
      have HVN : Hid (v ≠ 18) := hv
      have HFIT : Hid (k + sz + len ≤ n ∧ len ≤ 65534) := by
        obtain ⟨e1, e2, e3, -⟩ := HV1.out
        have h1 := not_und HO.out.1 (by rw [e1]; exact hv)
        have h2 : ¬ sp.fin - k - h.sz < h.len := fun h3 => HO.out.2.2 ⟨h1, h3⟩
        have h3 : ¬ 65534 < h.len := fun h4 => HO.out.2.1 ⟨by rw [e1]; exact hv, h4⟩
        have := HK.out
        have := HN.out.1
        exact ⟨by omega, by omega⟩
      clear hv
      have hV5 := HV.out.on HB5.out
      have hy5 : ∀ W, Below base W5 W → ∀ j, j < n → W.cell? ⟨b, off + j, none⟩ = some (.int .u8 (gB ys j : Int)) := fun W hW j hj => by
        obtain ⟨b', off', e, -, h2⟩ := (hV5.on hW).m j hj
        cases e
        exact h2
      have c05 := HP5.out.c0
      have c15 := HP5.out.c1
      have hEX : ∃ SL : Value, (∀ W, Below W5.heap.size W5 W → Calls Tryz.prog 76 #[.pointer (some ⟨rb, 0, none⟩), .int .i64 (sz : Int), .int .i64 (len : Int)] W fun e w' => e = .returned SL ∧ W = w') ∧ (∀ W, Below base W5 W → (convert 31 9 SL).run Tryz.prog W = .ok (.string (cutB ys (k + sz) len)) W) := by
        have hcn5 := hV5.c
        by_cases hl0 : len = 0
        · subst hl0
          exact ⟨.slice (some ⟨b, off, none⟩) 0 0, fun W hW => cut0_any W rb b off n cap k sz (by have := HFIT.out; omega) hcn5 hn ((hW.cell (Rp.cell_lt c05)).trans c05) ((hW.cell (Rp.cell_lt c15)).trans c15), fun W _ => str_nil⟩
        · refine ⟨.slice (some ⟨b, off + (sz + k), none⟩) len len, fun W hW => cut_any W rb b off n cap k sz len (by omega) (by have := HFIT.out; omega) hcn5 hn ((hW.cell (Rp.cell_lt c05)).trans c05) ((hW.cell (Rp.cell_lt c15)).trans c15), fun W hW => ?_⟩
          rw [Nat.add_comm sz k]
          exact str_cut HYL.out (by have := HFIT.out; omega) (hy5 W hW)
      obtain ⟨SL, cC, cV⟩ := hEX
      have hts := cutB_size ys (k + sz) len
      obtain ⟨tx, htx⟩ : ∃ tx, cutB ys (k + sz) len = tx := ⟨_, rfl⟩
      rw [htx] at cV hts
      have HTX : Hid _ := htx
      have cTr : ∀ W, Calls Tryz.prog 75 #[.int .i64 v, .string tx] W fun e w' => e = .returned (.string (trS v tx)) ∧ Below W.heap.size W w' := fun W => Rp.trim_any W v tx (by have := HFIT.out; omega)
      have htt := trS_size v tx
      obtain ⟨tt, htr⟩ : ∃ tt, trS v tx = tt := ⟨_, rfl⟩
      rw [htr] at cTr htt
      have HTR : Hid _ := htr
      have cA : ∀ W, Below W5.heap.size W5 W → Calls Tryz.prog 69 #[.pointer (some ⟨rb, 0, none⟩), .agg #[.int .u32 (T : Int), .int .i64 v, .int .i64 0, .string tt]] W (AddP base rb (.slice (some ⟨b, off, none⟩) n cap) W k M (bump M sp.node 1 ++ [⟨(T : Int), v, 0, tt⟩]) ({ sp with last := T } :: r) (.slice (some ⟨g, 0, none⟩) (m + 1) sc)) := fun W hW => by
        have := add_any W base rb _ n k M _ r nv g sc (T : Int) v tt (by rw [HM.out]; exact HP5.out.on hW) HI5.out hn
        rw [HM.out] at this
        exact this
      have hw1 : IntKind.i64.wrap (len : Int) = (len : Int) := by rw [IntKind.wrap_i64]; have := HFIT.out; omega
      have HCV : Hid (∀ W, Below base W5 W → (convert 31 9 SL).run Tryz.prog W = .ok (.string tx) W) := cV
      have cvv := cV W5 (Below.refl _ _)
      have cvd := cV W5.drew ((Below.refl _ _).drew)
      have HSZ : Hid (tt.size ≤ 65534) := by show _ ≤ _; have := HFIT.out; omega
      clear c05 c15 hy5 hV5 htx htr hts htt cV
      by_cases hm4 : M.length = 4096
      · have HQ4 : Hid (stepB (srcS ys) k M sp r h = .bad k 127) := by
          show _ = _
          unfold stepB
          rw [if_neg HO.out.1, if_neg HO.out.2.1, if_neg HO.out.2.2, HT.out, if_neg HGN.out, if_pos hm4]
        have cA2 : ∀ W, Below W5.heap.size W5 W → Calls Tryz.prog 69 #[.pointer (some ⟨rb, 0, none⟩), .agg #[.int .u32 (T : Int), .int .i64 v, .int .i64 0, .string tt]] W (AdPan base k W) := fun W hW => (cA W hW).mono fun e w' h => by
          obtain ⟨h1, h2, h3⟩ := h
          rw [if_pos hm4] at h1
          obtain ⟨qq, he, hc⟩ := h1
          exact ⟨qq, he, ⟨qq, he, hc⟩, h2⟩
        have HPF : Hid (∀ (e : Ending) (W6 W7 : World), Below W5.heap.size W5 W6 → AdPan base k W6 e W7 → StP base rb (.slice (some ⟨b, off, none⟩) n cap) w (stepE (srcS ys) k M sp r) e W7) := fun e W6 W7 hX h => by
          obtain ⟨-, -, h1, h2⟩ := h
          rw [HE.out, HQ4.out]
          exact ⟨h1, HB5.out.trans ((hX.mono HP5.out.lt).trans h2)⟩
        clear cA hm4
        go_wp2_with fail
        go_region_held2 (fun w' => w'.cell? ⟨W3.heap.size, 0, none⟩ = some (.int .i64 v) ∧ w'.cell? ⟨W3.heap.size, 1, none⟩ = some (.int .u32 (len : Int)) ∧ w'.cell? ⟨W3.heap.size, 2, none⟩ = some (.int .i64 (sz : Int)) ∧ (convert 31 9 SL).run Tryz.prog w' = .ok (.string tx) w') (first | (go_keep; done) | exact ⟨x0, x1, x2, cvd⟩ | exact ⟨x0, x1, x2, cvv⟩ | exact ⟨z0, z1, z2, z3⟩ | exact (nomatch h7.choose_spec.1)) (first | (go_at_call 76; refine Calls.mono (cC _ ((Below.refl _ _).drew)) ?_; rintro e W6 ⟨rfl, rfl⟩) | (go_at_call 75; refine Calls.mono (cTr _) ?_; rintro e W6 ⟨rfl, hb6⟩; have hX6 : Below W5.heap.size W5 W6 := ((Below.refl _ W5).drew).trans hb6; have z0 := (hX6.cell (Rp.cell_lt x0)).trans x0; have z1 := (hX6.cell (Rp.cell_lt x1)).trans x1; have z2 := (hX6.cell (Rp.cell_lt x2)).trans x2; have z3 := HCV.out W6 (hX6.mono HP5.out.lt)) | (go_at_call 69; refine Calls.mono (cA2 _ hX6) ?_; intro e W7 h7; rcases e with v7 | c7 | _; rotate_left; exact ⟨rfl, HPF.out _ _ _ hX6 h7⟩; exact (nomatch h7.choose_spec.1); skip))
        all_goals exact (nomatch h7.choose_spec.1)
      · have cA2 : ∀ W, Below W5.heap.size W5 W → Calls Tryz.prog 69 #[.pointer (some ⟨rb, 0, none⟩), .agg #[.int .u32 (T : Int), .int .i64 v, .int .i64 0, .string tt]] W fun e w' => e = .returned (.tuple #[]) ∧ Hid ((∃ nv', PR base rb (.slice (some ⟨b, off, none⟩) n cap) w' k (bump M sp.node 1 ++ [⟨(T : Int), v, 0, tt⟩]) ({ sp with last := T } :: r) nv' (.slice (some ⟨g, 0, none⟩) (m + 1) sc)) ∧ Below base W w' ∧ Kp W w') := fun W hW => (cA W hW).mono fun e w' h => by
          obtain ⟨h1, h2, h3⟩ := h
          rw [if_neg hm4] at h1
          exact ⟨h1.1, h1.2, h2, h3⟩
        have HM4 : Hid _ := hm4
        clear cA hm4
        go_wp2_with fail
        go_region_held3 (fun w' => w'.cell? ⟨W3.heap.size, 0, none⟩ = some (.int .i64 v) ∧ w'.cell? ⟨W3.heap.size, 1, none⟩ = some (.int .u32 (len : Int)) ∧ w'.cell? ⟨W3.heap.size, 2, none⟩ = some (.int .i64 (sz : Int)) ∧ (convert 31 9 SL).run Tryz.prog w' = .ok (.string tx) w') (first | (go_keep; done) | exact ⟨x0, x1, x2, cvd⟩ | exact ⟨x0, x1, x2, cvv⟩ | exact ⟨z0, z1, z2, z3⟩ | exact ⟨k0, k1, k2, k4⟩) (first | (go_at_call 76; refine Calls.mono (cC _ ((Below.refl _ _).drew)) ?_; rintro e W6 ⟨rfl, rfl⟩) | (go_at_call 75; refine Calls.mono (cTr _) ?_; rintro e W6 ⟨rfl, hb6⟩; have hX6 : Below W5.heap.size W5 W6 := ((Below.refl _ W5).drew).trans hb6; have z0 := (hX6.cell (Rp.cell_lt x0)).trans x0; have z1 := (hX6.cell (Rp.cell_lt x1)).trans x1; have z2 := (hX6.cell (Rp.cell_lt x2)).trans x2; have z3 := HCV.out W6 (hX6.mono HP5.out.lt)) | (go_at_call 69; refine Calls.mono (cA2 _ hX6) ?_; rintro e W7 ⟨rfl, H7⟩; have HK7 := HC.kp (HH5.out.on hX6) (by obtain ⟨cs, hh⟩ := HT5.out; exact ⟨cs, (hX6.block _ (Array.getElem?_eq_some_iff.1 hh).1).trans hh⟩) H7.out.2.2; obtain ⟨k0, k1, k2, k3⟩ := HK7; have k4 := HCV.out W7 ((hX6.mono HP5.out.lt).trans H7.out.2.1)))
        have cLv := leave_any W7 base rb k _ _ _ _ _ v len sz x H7.out.1.choose_spec (by have := HK.out; omega) HN.out.2.2 (by have := HFIT.out; omega)
        unfold hdV at cLv
        have HB7 : Hid (Below base W5 W7) := (hX6.mono HP5.out.lt).trans H7.out.2.1
        clear x0 x1 x2 x3 z0 z1 z2 z3 k4 cvv cvd
        go_wp2_with (go_at_call 74; refine StopV.out ?_)
        refine ⟨Calls.mono cLv ?_⟩
        rintro e W8 ⟨rfl, hp8, hb8⟩
        go_wp2
        refine bodyPost_end (results_none rfl _ _ _) rfl (HFB.out ?_ rfl ⟨_, _, hp8.out⟩ (HB7.out.trans hb8.out))
        obtain ⟨e1, e2, e3, -⟩ := HV1.out
        unfold stepB
        rw [if_neg HO.out.1, if_neg HO.out.2.1, if_neg HO.out.2.2, HT.out, if_neg HGN.out, if_neg HM4.out, if_neg (by rw [e1]; exact HVN.out), e1, e2, e3]
        show Res.go (k + sz + len) (bump M sp.node 1 ++ [⟨(T : Int), v, 0, trS v (cutB ys (k + sz) len)⟩]) _ = _
        rw [HTX.out, HTR.out]
  · have HQ1 : Hid (stepE (srcS ys) k M sp r = .bad k 123) := by
      show _ = _
      unfold stepE
      rw [if_pos (.inl (by rw [HT.out]; exact hbar))]
    clear hbar
    go_wp2_with (go_at_call 65; refine StopV.out ?_)
    refine ⟨Calls.mono (cG.out _ HB1.out 123) ?_⟩
    rintro e W3 ⟨⟨q, rfl, hc⟩, HB3⟩
    exact ⟨rfl, HBAD.out 123 HQ1.out _ HB1.out ⟨q, rfl, hc⟩ HB3.out⟩
end Go.Proofs.YtfoodjhffehgpaaGreatDoor
end
