import Derived.Test.YtoikdpjjcnmgeaaGreatDoorVo
import Derived.Test.YtoikdpjjcnmgeaaGreatDoorBa
section
/-
  DERIVED. An item taken.
-/
namespace Go.Proofs.YtoikdpjjcnmgeaaGreatDoor
open Go Go.Proofs Go.RowKit
open Wk (Nd nds)
open Go.Sort

/-- What is told of a step. -/
def StP (base rb : Nat) (bv : Value) (w : World) (R : Res) (e : Ending) (w' : World) : Prop :=
  (match R with
    | .bad a c => Pan w' a c e
    | .go k' M' st' => e = .returned (.tuple #[]) ∧ ∃ nv sv, PR base rb bv w' k' M' st' nv sv) ∧ Below base w w'
theorem PI.add {n k : Nat} {M : List Nd} {sp : Sp} {r : List Sp} (h : PI n k M (sp :: r)) (hl : M.length ≠ 4096) {b : Nd} (hb : NOk 0 b) : PI n k (bump M sp.node 1 ++ [b]) (sp :: r) :=
  ⟨h.ns, h.fn, h.ln, h.mo.add hl _ hb, fun x hx p e => by rw [List.length_append, bump_len]; exact Nat.lt_of_lt_of_le (h.nd x hx p e) (Nat.le_add_right _ _), h.la⟩
theorem HC.kp {W W' : World} {g : Nat} {v : Int} {len sz x : Nat} (h : HC W g v len sz x) (ht : ∃ cs, W.heap[g]? = some (Obj.cells cs 159)) (hk : Kp W W') : HC W' g v len sz x := by
  obtain ⟨cs, ht⟩ := ht
  have e := hk g cs ht
  exact ⟨(cell_block e).trans h.h0, (cell_block e).trans h.h1, (cell_block e).trans h.h2, (cell_block e).trans h.h3⟩
theorem HC.drew {W : World} {g : Nat} {v : Int} {len sz x : Nat} (h : HC W g v len sz x) : HC W.drew g v len sz x := ⟨h.h0, h.h1, h.h2, h.h3⟩

set_option maxRecDepth 100000 in
set_option maxHeartbeats 8000000 in
theorem takeItem_any (w : World) (base rb : Nat) (a : Option Addr) (n cap k : Nat) (ys : List UInt8) (M : List Nd) (sp : Sp) (r : List Sp) (nv : Value) (g sc : Nat) (hP : PR base rb (.slice a n cap) w k M (sp :: r) nv (.slice (some ⟨g, 0, none⟩) (r.length + 1) sc)) (hV : BV base w a n cap ys) (hI : PI n k M (sp :: r)) (h8 : 8 ≤ sp.fin - k) :
    Calls Tryz.prog 59 #[.pointer (some ⟨rb, 0, none⟩), .pointer (some ⟨g, r.length * 6, none⟩)] w (StP base rb (.slice a n cap) w (stepI (srcS ys) k M sp r)) := by
  have hn := hV.s
  have hcn := hV.c
  have hln := hI.ln
  simp only [List.length_cons] at hln
  obtain ⟨hk, hf⟩ := hI.le
  obtain ⟨b, off, rfl, hbb, hby⟩ := hV.at (by omega)
  have hml : r.length ≤ 4000000 := by omega
  obtain ⟨s0, s1, s2, s3, s4, s5⟩ := hP.sc
  have HB : Hid (base ≤ w.heap.size) := hP.lt
  have HP : Hid _ := hP
  have HI : Hid _ := hI
  have c0 := hP.c0
  have c1 := hP.c1
  have c3 := hP.c3
  have hyW : ∀ W, Below w.heap.size w W → ∀ j, j < n → W.cell? ⟨b, off + j, none⟩ = some (.int .u8 (gB ys j : Int)) := fun W hW j hj => (hW.cell (Rp.cell_lt (hby j hj))).trans (hby j hj)
  have cT : Hid (∀ W, Below w.heap.size w W → Calls Tryz.prog 90 #[.pointer (some ⟨rb, 0, none⟩)] W fun e w' => e = .returned (.int .u32 (tagS ys k : Int)) ∧ Below W.heap.size W w') := fun W hW => tag_any W rb b off n cap k ys (by omega) hcn hn ((hW.cell (Rp.cell_lt c0)).trans c0) ((hW.cell (Rp.cell_lt c1)).trans c1) (hyW W hW)
  have cN : ∀ W, Below w.heap.size w W → Calls Tryz.prog 92 #[.pointer (some ⟨rb, 0, none⟩), .int .i64 4, .int .i64 4] W fun e w' => e = .returned (.int .u32 (numS ys (k + 4) : Int)) ∧ W = w' := fun W hW => number4_any W rb b off n cap k 4 ys (by omega) hcn hn ((hW.cell (Rp.cell_lt c0)).trans c0) ((hW.cell (Rp.cell_lt c1)).trans c1) (hyW W hW)
  have cG : Hid (∀ W, Below w.heap.size w W → ∀ c : Nat, Calls Tryz.prog 93 #[.pointer (some ⟨rb, 0, none⟩), .int .i64 (c : Int)] W fun e w' => Hid (Pan w' k c e) ∧ Hid (Below W.heap.size W w')) := fun W hW c => giveUp_any W rb k c ((hW.cell (Rp.cell_lt c1)).trans c1)
  have cD : Hid (∀ W, Below w.heap.size w W → Calls Tryz.prog 95 #[.pointer (some ⟨rb, 0, none⟩)] W fun e w' => e = .returned (.int .i64 (((r.length + 1) / 2 : Nat) : Int)) ∧ W = w') := fun W hW => depth_any W rb (r.length + 1) sc _ (by omega) ((hW.cell (Rp.cell_lt c3)).trans c3)
  have cL : Hid (∀ W, Below w.heap.size w W → ∀ x : Nat, Calls Tryz.prog 96 #[.pointer (some ⟨rb, 0, none⟩), .agg #[.int .i64 29, .int .u32 (numS ys (k + 4) : Int), .int .i64 8, .iface x (.agg #[])]] W (NeedP W k (decide (numS ys (k + 4) ≠ und ∧ sp.fin - k - 8 < numS ys (k + 4))))) := fun W hW x => needLen_any W rb g r.length sc k sp.fin 29 (numS ys (k + 4)) 8 x hml ((hW.cell (Rp.cell_lt c1)).trans c1) ((hW.cell (Rp.cell_lt c3)).trans c3) ((hW.cell (Rp.cell_lt s1)).trans s1) (by omega) (by omega)
  have hZl := numS_lt ys (k + 4)
  have cO : Hid (∀ W, Calls Tryz.prog 94 #[.int .u32 (numS ys (k + 4) : Int)] W fun e w' => e = .returned (.bool (!decide (numS ys (k + 4) = und) && decide (numS ys (k + 4) % 2 = 1))) ∧ W = w') := fun W => odd_any W _ hZl
  have bad : ∀ c, stepI (srcS ys) k M sp r = .bad k c → ∀ W, Below w.heap.size w W → ∀ {e : Ending} {W2 : World}, Pan W2 k c e → Below W.heap.size W W2 → StP base rb (.slice (some ⟨b, off, none⟩) n cap) w (stepI (srcS ys) k M sp r) e W2 := fun c hc W hW e W2 hp hB => by
    rw [hc]
    exact ⟨hp, (hW.mono HB.out).trans (hB.mono (Nat.le_trans HB.out hW.size))⟩
  have HBAD : Hid _ := @bad
  clear bad
  obtain ⟨x, hx⟩ : ∃ x, exI sp.ex = x := ⟨_, rfl⟩
  rw [exV_eq, hx] at s4
  obtain ⟨m, hm⟩ : ∃ m, r.length = m := ⟨_, rfl⟩
  rw [hm] at s4
  obtain ⟨Z, hZ⟩ : ∃ Z, numS ys (k + 4) = Z := ⟨_, rfl⟩
  rw [hZ] at cN cL cO hZl
  have HZ : Hid _ := hZ
  have HM : Hid _ := hm
  have HX : Hid _ := hx
  rw [hm]
  clear s0 s1 s2 s3 s5 c0 c1 c3 hyW hby hP hV hI hk hf hln hml hZ hm hx hcn
  go_enter Tryz.func59, Tryz.ntmps59
  go_wp2_with (go_at_call 90; refine StopV.out ?_)
  refine ⟨Calls.mono (cT.out _ (Below.refl _ _)) ?_⟩
  rintro e W1 ⟨rfl, hb1⟩
  by_cases hT : tagS ys k = 4294893568
  · have b1 : ((tagS ys k : Int) != 4294893568) = false := by rw [hT]; rfl
    have HT2 : Hid _ := hT
    have s41 := (hb1.cell (Rp.cell_lt s4)).trans s4
    have HB1 : Hid _ := hb1
    have cN1 : ∀ W, Below W1.heap.size W1 W → Calls Tryz.prog 92 #[.pointer (some ⟨rb, 0, none⟩), .int .i64 4, .int .i64 4] W fun e w' => e = .returned (.int .u32 (Z : Int)) ∧ W = w' := fun W hW => cN W (hb1.trans (hW.mono hb1.size))
    have s4a : ∀ o, (W1.alloc o).cell? ⟨g, m * 6 + 4, none⟩ = some (.iface x (.agg #[])) := fun o => (((Below.refl _ W1).alloc (Nat.le_refl _) o).cell (Rp.cell_lt s41)).trans s41
    have p3 : g ≠ W1.heap.size := Nat.ne_of_lt (Rp.cell_lt s41)
    have p4 : W1.heap.size ≠ g := fun h => p3 h.symm
    clear hT cN hb1
    go_upto_region 2 with fail
    go_cut [4] from 5 (fun s4 wx => Hid (∃ B, s4 = .pointer (some ⟨B, 0, none⟩) ∧ W1.heap.size ≤ B ∧ Below W1.heap.size W1 wx ∧ HC wx B 29 Z 8 x ∧ ∃ cs, wx.heap[B]? = some (Obj.cells cs 159)))
    case first =>
      go_region_held3 (fun w' => w'.cell? ⟨g, m * 6 + 4, none⟩ = some (.iface x (.agg #[]))) (first | (go_keep; done) | exact s41 | exact s4a _) (first | (go_at_call 92; refine Calls.mono (cN1 _ (by first | exact (Below.refl _ _).drew | exact ((Below.refl _ _).alloc (Nat.le_refl _) _).drew)) ?_; rintro e W2 ⟨rfl, rfl⟩))
      all_goals
        go_wp2
        go_meet
        case rel => exact ⟨W1.heap.size, rfl, Nat.le_refl _, ((Below.refl _ _).alloc (Nat.le_refl _) _).drew, (HC.new W1 29 Z 8 x).drew, ⟨_, heap_alloc_new W1 _⟩⟩
    case rest =>
      obtain ⟨B, rfl, hBl, hbc, hhc, hty⟩ := hcut.out
      have HTY : Hid _ := hty
      clear hty
      have HBc : Hid (Below w.heap.size w wc) := HB1.out.trans (hbc.mono HB1.out.size)
      have HHc : Hid _ := hhc
      obtain ⟨x0, x1, x2, x3⟩ := hhc
      clear hcut s4a cN1 p3 p4 hbc
      go_wp2_with (go_at_call 94; refine StopV.out ?_)
      refine ⟨Calls.mono (cO.out _) ?_⟩
      rintro e W2 ⟨rfl, rfl⟩
      by_cases ho : Z ≠ und ∧ Z % 2 = 1
      · have ho2 : (!decide (Z = und) && decide (Z % 2 = 1)) = true := by simp [ho.1, ho.2]
        have HQ : Hid (stepI (srcS ys) k M sp r = .bad k 125) := by
          show _ = _
          unfold stepI
          rw [if_neg (fun h => h HT2.out), if_pos (by rw [show (srcS ys).num (k + 4) = Z from HZ.out]; exact ho)]
        rw [ho2]
        clear ho ho2
        go_wp2_with (go_at_call 93; refine StopV.out ?_)
        refine ⟨Calls.mono (cG.out _ HBc.out 125) ?_⟩
        rintro e W3 ⟨⟨q, rfl, hc⟩, HB3⟩
        exact ⟨rfl, HBAD.out 125 HQ.out _ HBc.out ⟨q, rfl, hc⟩ HB3.out⟩
      have ho2 : (!decide (Z = und) && decide (Z % 2 = 1)) = false := by
        rcases hx2 : (!decide (Z = und) && decide (Z % 2 = 1)) with _ | _
        · rfl
        · simp at hx2; exact absurd hx2 ho
      have HQ1 : Hid (¬ (Z ≠ und ∧ Z % 2 = 1)) := ho
      rw [ho2]
      clear ho ho2
      go_wp2_with (go_at_call 95; refine StopV.out ?_)
      refine ⟨Calls.mono (cD.out _ HBc.out) ?_⟩
      rintro e W2 ⟨rfl, rfl⟩
      obtain ⟨d, hd⟩ : ∃ d, (r.length + 1) / 2 = d := ⟨_, rfl⟩
      rw [hd]
      have HD : Hid _ := hd
      clear hd
      by_cases hd4 : 4 < d
      · have b4 : decide (4 < d) = true := decide_eq_true hd4
        have HQ : Hid (stepI (srcS ys) k M sp r = .bad k 126) := by
          show _ = _
          unfold stepI
          rw [if_neg (fun h => h HT2.out), if_neg (by rw [show (srcS ys).num (k + 4) = Z from HZ.out]; exact HQ1.out), if_pos (by rw [HD.out]; exact hd4)]
        go_wp2_with (go_at_call 93; refine StopV.out ?_)
        refine ⟨Calls.mono (cG.out _ HBc.out 126) ?_⟩
        rintro e W3 ⟨⟨q, rfl, hc⟩, HB3⟩
        exact ⟨rfl, HBAD.out 126 HQ.out _ HBc.out ⟨q, rfl, hc⟩ HB3.out⟩
      have b4 : decide (4 < d) = false := decide_eq_false hd4
      have HQ2 : Hid (¬ 4 < (r.length + 1) / 2) := by show ¬ _; rw [HD.out]; exact hd4
      go_wp2_with (go_at_call 96; refine StopV.out ?_)
      refine ⟨Calls.mono (cL.out _ HBc.out x) ?_⟩
      rintro e W3 ⟨he, hb3⟩
      by_cases hsh : Z ≠ und ∧ sp.fin - k - 8 < Z
      · rw [decide_eq_true hsh] at he
        obtain ⟨q, rfl, hc⟩ : Pan W3 k 122 e := he
        refine ⟨rfl, HBAD.out 122 ?_ _ HBc.out ⟨q, rfl, hc⟩ hb3⟩
        unfold stepI
        rw [if_neg (fun h => h HT2.out), if_neg (by rw [show (srcS ys).num (k + 4) = Z from HZ.out]; exact HQ1.out), if_neg HQ2.out, if_pos (by rw [show (srcS ys).num (k + 4) = Z from HZ.out]; exact hsh)]
      rw [decide_eq_false hsh] at he
      obtain rfl : e = .returned (.tuple #[]) := he
      have HQ3 : Hid (¬ (Z ≠ und ∧ sp.fin - k - 8 < Z)) := hsh
      have hB3 : Below w.heap.size w W3 := HBc.out.trans (hb3.mono HBc.out.size)
      have HP3 : Hid _ := HP.out.on hB3
      have HH3 : Hid _ := HHc.out.on hb3
      have HB3 : Hid _ := hB3
      have HT159 : Hid (∃ cs, W3.heap[B]? = some (Obj.cells cs 159)) := by obtain ⟨cs, h⟩ := HTY.out; exact ⟨cs, (hb3.block B (Array.getElem?_eq_some_iff.1 h).1).trans h⟩
      have cA := add_any W3 base rb _ n k M sp r nv g sc 4294893568 29 ⟨#[]⟩ HP3.out HI.out hn
      clear x0 x1 x2 x3 HHc hsh hd4 b4 hb3 hB3 HP
      go_wp2_with (go_at_call 97; refine StopV.out ?_)
      refine ⟨Calls.mono cA ?_⟩
      rintro e W4 ⟨he, hb4, hkp⟩
      by_cases hm4 : M.length = 4096
      · rw [if_pos hm4] at he
        obtain ⟨q, rfl, hc⟩ : Pan W4 k 127 e := he
        refine ⟨rfl, ?_⟩
        have : stepI (srcS ys) k M sp r = .bad k 127 := by
          unfold stepI
          rw [if_neg (fun h => h HT2.out), if_neg (by rw [show (srcS ys).num (k + 4) = Z from HZ.out]; exact HQ1.out), if_neg HQ2.out, if_neg (by rw [show (srcS ys).num (k + 4) = Z from HZ.out]; exact HQ3.out), if_pos hm4]
        rw [this]
        exact ⟨⟨q, rfl, hc⟩, (HB3.out.mono HB.out).trans hb4⟩
      rw [if_neg hm4] at he
      obtain ⟨rfl, nv', hp4⟩ := he
      have HM4 : Hid _ := hm4
      have HI4 : Hid _ := PI.add HI.out hm4 (b := ⟨4294893568, 29, 0, ⟨#[]⟩⟩) ⟨by decide, by decide, by decide, by decide, by decide, by decide, by decide⟩
      have HB4 : Hid (Below base w W4) := (HB3.out.mono HB.out).trans hb4
      have HL4 : Hid ((bump M sp.node 1 ++ [(⟨4294893568, 29, 0, ⟨#[]⟩⟩ : Nd)]).length = M.length + 1) := by show _ = _; rw [List.length_append, bump_len]; rfl
      have cE := enter_any W4 base rb _ n k _ sp r nv' g sc 29 Z 8 sp.ex hp4 HI4.out hn (by rw [HL4.out]; omega) (by decide) hZl
      unfold hdV at cE
      rw [HX.out] at cE
      have HH4 : Hid (HC W4 B 29 Z 8 x) := HC.kp HH3.out HT159.out hkp
      obtain ⟨x0, x1, x2, x3⟩ := HH4.out
      clear cA HP3 hkp hb4 hp4
      go_wp2_with (go_at_call 98; refine StopV.out ?_)
      refine ⟨Calls.mono cE ?_⟩
      rintro e W5 ⟨rfl, ⟨sv', hp5⟩, hb5⟩
      go_wp2
      refine bodyPost_end (results_none rfl _ _ _) rfl ?_
      have : stepI (srcS ys) k M sp r = .go (k + 8) (bump M sp.node 1 ++ [⟨4294893568, 29, 0, ⟨#[]⟩⟩]) (spOf (bump M sp.node 1 ++ [⟨4294893568, 29, 0, ⟨#[]⟩⟩]) sp.fin (k + 8) 29 Z sp.ex :: sp :: r) := by
        unfold stepI spOf
        rw [if_neg (fun h => h HT2.out), if_neg (by rw [show (srcS ys).num (k + 4) = Z from HZ.out]; exact HQ1.out), if_neg HQ2.out, if_neg (by rw [show (srcS ys).num (k + 4) = Z from HZ.out]; exact HQ3.out), if_neg HM4.out, HL4.out, show (srcS ys).num (k + 4) = Z from HZ.out]
        rfl
      rw [this]
      exact ⟨⟨rfl, nv', sv', hp5⟩, HB4.out.trans hb5.out⟩
  · have b1 : ((tagS ys k : Int) != 4294893568) = true := bne_iff_ne.2 (by omega)
    have HQ : Hid (stepI (srcS ys) k M sp r = .bad k 123) := by
      show _ = _
      unfold stepI
      rw [if_pos (fun h : (srcS ys).tag k = _ => hT h)]
    clear hT
    go_wp2_with (go_at_call 93; refine StopV.out ?_)
    refine ⟨Calls.mono (cG.out _ hb1 123) ?_⟩
    rintro e W3 ⟨⟨q, rfl, hc⟩, HB3⟩
    exact ⟨rfl, HBAD.out 123 HQ.out _ hb1 ⟨q, rfl, hc⟩ HB3.out⟩
end Go.Proofs.YtoikdpjjcnmgeaaGreatDoor
end

section
/-
  DERIVED. A value, trimmed: the program's.
-/
namespace Go.Proofs.YtoikdpjjcnmgeaaGreatDoor.Rp
open Go Go.Proofs Go.RowKit

theorem text_any (w : World) (v : Int) : Calls Tryz.prog 79 #[.int .i64 v] w fun e w' => e = .returned (.bool (tx (vn v))) ∧ Below w.heap.size w w' := by
  obtain ⟨cf, ff, hcf, hff, c⟩ := repOf_open w v
  generalize nm (vn v) = n at c
  generalize pd (vn v) = p at c
  generalize un (vn v) = u at c
  generalize mo (vn v) = m at c
  generalize tx (vn v) = t at c ⊢
  generalize ch (vn v) = c' at c
  generalize mu (vn v) = q at c
  generalize lo (vn v) = l at c
  generalize decide (1 ≤ v ∧ v ≤ 28) = b at c
  rcases hcf with rfl | ⟨j, rfl⟩ <;> rcases hff with rfl | ⟨j2, rfl⟩
  all_goals go_enter Tryz.func79, Tryz.ntmps79
  all_goals go_wp2_with (first | (go_at_call 81; refine c.mono ?_; rintro e W1 ⟨rfl, hb⟩) | fail)
  all_goals go_ret
  all_goals exact ⟨rfl, hb.alloc hb.size _⟩
theorem trim_any (w : World) (v : Int) (s : ByteArray) (hs : s.size ≤ 140737488351232) : Calls Tryz.prog 48 #[.int .i64 v, .string s] w fun e w' => e = .returned (.string (if tx (vn v) then trimB s else s)) ∧ Below w.heap.size w w' := by
  have c13 := text_any w v
  have c36 := fun W => trimmed_any s W hs
  generalize trimB s = r at c36 ⊢
  cases ht : tx (vn v) with
  | true =>
    rw [ht] at c13
    clear ht
    go_enter Tryz.func48, Tryz.ntmps48
    go_wp2_with (first | (go_at_call 79; refine c13.mono ?_; rintro e W1 ⟨rfl, hb1⟩) | (go_at_call 80; refine (c36 _).mono ?_; rintro e W2 ⟨rfl, hb2⟩))
    go_ret
    exact ⟨rfl, hb1.trans (hb2.mono hb1.size)⟩
  | false =>
    rw [ht] at c13
    clear ht
    go_enter Tryz.func48, Tryz.ntmps48
    go_wp2_with (first | (go_at_call 79; refine c13.mono ?_; rintro e W1 ⟨rfl, hb1⟩) | fail)
    go_ret
    exact ⟨rfl, hb1⟩
end Go.Proofs.YtoikdpjjcnmgeaaGreatDoor.Rp
end
