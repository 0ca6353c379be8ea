
import Derived.Test.YtegfgbcimlacbaaGreatDoorOb
import Derived.Maps.Own
import Derived.Maps.OwnOps
import Derived.Maps.Views
/-
  DERIVED. A repertoire's way back, filled.
-/
namespace Go.Proofs.YtegfgbcimlacbaaGreatDoor
open Go Go.Proofs Go.RowKit Go.Maps

theorem law21 : Keyed Tryz.prog 21 := int_keyed Tryz.underlying21
theorem zero5 (w : World) : (zeroValue 5).run Tryz.prog w = .ok (.int .u8 0) w := by kernel_rfl

theorem wf_i32 (r : Int) (h0 : -2147483648 ≤ r) (h : r < 2147483648) : (Lit.int .i32 r).wf = true := by
  simp only [Lit.wf, Bool.and_eq_true, decide_eq_true_eq, show IntKind.i32.min = -2147483648 from rfl, show IntKind.i32.max = 2147483647 from rfl]
  omega
theorem wf_u8 (r : Int) (h0 : 0 ≤ r) (h : r < 256) : (Lit.int .u8 r).wf = true := by
  simp only [Lit.wf, Bool.and_eq_true, decide_eq_true_eq, show IntKind.u8.min = 0 from rfl, show IntKind.u8.max = 255 from rfl]
  omega

/-- The map behind the first d bytes. -/
def Mp (k : Nat) : Nat → DataW Unit
  | 0 => .map []
  | d + 1 => if mean k d = 0 then Mp k d else (Mp k d).put (.int .i32 (mean k d : Nat)) (.lit (.int .u8 ((160 + d : Nat) : Int)))

theorem mean_b (w : World) (k b : Nat) (hk : k < 7) (h0 : 160 ≤ b) (h1 : b < 256) (hT : Tabs w) : Calls Tryz.prog (mfN k) #[.int .u8 (b : Int)] w fun e w' => e = .returned (.int .i32 (mean k (b - 160) : Nat)) ∧ w = w' := by
  have := mean_any w k (b - 160) hk (by omega) hT
  rw [show 160 + (b - 160) = b by omega] at this
  exact this

/-- What holds ahead of each round in which the map is filled. -/
def FillInv (k M : Nat) (W1 : World) (y : Value) (wr : World) : Prop :=
  ∃ b : Nat, y = .int .i64 (b : Int) ∧ 160 ≤ b ∧ b ≤ 256 ∧ Below M W1 wr ∧ wr.ownsMap Tryz.prog 21 (plainElem Tryz.prog 5) M (b - 160) (Mp k (b - 160))

set_option maxRecDepth 100000 in
set_option maxHeartbeats 1000000 in
theorem fill_any (w : World) (B k : Nat) (hk : k < 7) (x3 : Value) (hc : w.cell? ⟨B, 3, none⟩ = some x3) (hf : ∀ i, w.frozen? ⟨B, i, none⟩ = false) (hT : Tabs w) (hB5 : 5 < B) :
    Calls Tryz.prog 74 #[.pointer (some ⟨B, 0, none⟩), .func (.func (mfN k)) #[] #[]] w fun e w' => e = .returned (.tuple #[]) ∧ Below w.heap.size ((w.alloc (.map #[] 0)).setCell ⟨B, 3, none⟩ (.map (some w.heap.size))) w' ∧ w'.ownsMap Tryz.prog 21 (plainElem Tryz.prog 5) w.heap.size 96 (Mp k 96) := by
  have hmm := @run_makeMap Tryz.prog
  have hBl : B < w.heap.size := cell_lt hc
  obtain ⟨M, hM⟩ : ∃ M, w.heap.size = M := ⟨_, rfl⟩
  rw [hM] at hBl
  obtain ⟨W0, hW0⟩ : ∃ W0, w.alloc (.map #[] 0) = W0 := ⟨_, rfl⟩
  have hb0 : Below M w W0 := by rw [← hW0, ← hM]; exact (Below.refl _ _).alloc (Nat.le_refl _) _
  have hm0 : W0.ownsMap Tryz.prog 21 (plainElem (H := Unit) Tryz.prog 5) M 0 (.map []) := by rw [← hW0, ← hM]; exact World.ownsMap_made _ _ _ _
  have c0 := (hb0.cell (p := ⟨B, 3, none⟩) hBl).trans hc
  have f0 := fun i => (hb0.frozen (p := ⟨B, i, none⟩) hBl).trans (hf i)
  obtain ⟨W1, hW1⟩ : ∃ W1, W0.setCell ⟨B, 3, none⟩ (.map (some M)) = W1 := ⟨_, rfl⟩
  have hc1 : W1.cell? ⟨B, 3, none⟩ = some (.map (some M)) := by rw [← hW1]; exact cell_set_eq c0
  have hm1 : W1.ownsMap Tryz.prog 21 (plainElem (H := Unit) Tryz.prog 5) M 0 (.map []) := by
    obtain ⟨es, cl, hh, r⟩ := hm0
    exact ⟨es, cl, by rw [← hW1]; exact (heap_set_off (by simp; omega)).trans hh, r⟩
  have hT1 : Tabs W1 := by
    have hT0 := hT.on (hM ▸ hb0)
    refine ⟨fun i hi => ?_, fun i hi => ?_⟩
    · rw [← hW1]; exact (cell_set_off (by omega)).trans (hT0.p1 i hi)
    · rw [← hW1]; exact (cell_set_off (by omega)).trans (hT0.p2 i hi)
  have HMl : Hid (M ≤ W1.heap.size ∧ B < M ∧ 5 < M) := ⟨by rw [← hW1]; simp; rw [← hW0, ← hM]; simp, hBl, by omega⟩
  have HC : Hid (∀ wr, Below M W1 wr → wr.cell? ⟨B, 3, none⟩ = some (.map (some M)) ∧ Tabs wr) := fun wr hb => ⟨(hb.cell (p := ⟨B, 3, none⟩) hBl).trans hc1, ⟨fun i hi => (hb.cell (p := ⟨4, i, none⟩) (show 4 < M by omega)).trans (hT1.p1 i hi), fun i hi => (hb.cell (p := ⟨5, i, none⟩) (show 5 < M by omega)).trans (hT1.p2 i hi)⟩⟩
  have HM1 : Hid (W1.ownsMap Tryz.prog 21 (plainElem (H := Unit) Tryz.prog 5) M 0 (.map [])) := hm1
  have HMB : Hid (∀ (W : World) (b : Nat), 160 ≤ b → b < 256 → Tabs W → Calls Tryz.prog (mfN k) #[.int .u8 (b : Int)] W fun e w' => e = .returned (.int .i32 (mean k (b - 160) : Nat)) ∧ W = w') := fun W b h0 h1 hT => mean_b W k b hk h0 h1 hT
  have HHI : Hid (∀ d, d < 96 → mean k d = 0 ∨ (160 ≤ mean k d ∧ mean k d < 65536)) := fun d hd => mean_high ⟨k, hk⟩ ⟨d, hd⟩
  rw [hM, hW0, hW1]
  have hj : mfN k = 67 ∨ mfN k = 68 ∨ mfN k = 69 ∨ mfN k = 70 ∨ mfN k = 71 ∨ mfN k = 72 := by
    rcases (by omega : k = 0 ∨ k = 1 ∨ k = 2 ∨ k = 3 ∨ k = 4 ∨ k = 5 ∨ k = 6) with rfl | rfl | rfl | rfl | rfl | rfl | rfl <;> decide
  generalize mfN k = j at HMB hj ⊢
  clear hm0 hm1 hT1 hT hb0 hc hf hc1
  rcases hj with rfl | rfl | rfl | rfl | rfl | rfl
  all_goals (
    go_enter Tryz.func74, Tryz.ntmps74
    go_wp2
    go_loopw [4] (fun y wr => FillInv k M W1 y wr) (fun y _ => 256 - (intOf y).toNat)
    case atStart => exact ⟨160, rfl, by omega, by omega, Below.refl _ _, HM1.out⟩
    case round =>
      obtain ⟨b, rfl, hb0, hb1, hbr, hown⟩ := hrel
      have hcc := HC.out wr hbr
      obtain ⟨hc3, hTr⟩ := hcc
      have HBr : Hid (Below M W1 wr) := hbr
      have HO : Hid (wr.ownsMap Tryz.prog 21 (plainElem (H := Unit) Tryz.prog 5) M (b - 160) (Mp k (b - 160))) := hown
      by_cases hb : b < 256
      · have cM := HMB.out wr b hb0 hb hTr
        have hbi : (b : Int) ≤ 255 := by omega
        have hbm : (b : Int) % 256 = (b : Int) := by omega
        have hhi := HHI.out (b - 160) (by omega)
        have hstep : Mp k (b - 160 + 1) = if mean k (b - 160) = 0 then Mp k (b - 160) else (Mp k (b - 160)).put (.int .i32 (mean k (b - 160) : Nat)) (.lit (.int .u8 (b : Int))) := by
          rw [Mp, show 160 + (b - 160) = b by omega]
        have hd1 : b + 1 - 160 = b - 160 + 1 := by omega
        have HST : Hid (∀ r : Nat, mean k (b - 160) = r → Mp k (b + 1 - 160) = if r = 0 then Mp k (b - 160) else (Mp k (b - 160)).put (.int .i32 (r : Int)) (.lit (.int .u8 (b : Int)))) := fun r hr => by rw [hd1, hstep, hr]
        have HSZ : Hid (b + 1 - 160 = b - 160 + 1) := hd1
        obtain ⟨r, hr⟩ : ∃ r, mean k (b - 160) = r := ⟨_, rfl⟩
        have HRr : Hid (Mp k (b + 1 - 160) = if r = 0 then Mp k (b - 160) else (Mp k (b - 160)).put (.int .i32 (r : Int)) (.lit (.int .u8 (b : Int)))) := HST.out r hr
        rw [hr] at cM hhi
        clear hstep hd1 hr HST hTr hown hbr
        go_wp2_with (first | (go_at_call 67; fail) | (go_at_call 68; fail) | (go_at_call 69; fail) | (go_at_call 70; fail) | (go_at_call 71; fail) | (go_at_call 72; fail))
        refine cM.mono ?_
        rintro e w' ⟨rfl, rfl⟩
        rcases hhi with h0 | ⟨h160, h65⟩
        · subst h0
          have HR0 : Hid (Mp k (b + 1 - 160) = Mp k (b - 160)) := HRr.out
          clear HRr cM
          go_wp2
          go_roundw
          case rel => exact ⟨b + 1, by simp, by omega, by omega, HBr.out, by rw [HR0.out]; exact HO.out.mono (by omega)⟩
          case measure => simp [intOf]; omega
        · have hr0 : ((r : Int) != 0) = true := by simp; omega
          have hkey : keyOf Tryz.prog 21 (.int .i32 (r : Int)) = some (.int .i32 (r : Int)) := keyOf_int_mk Tryz.underlying21 (wf_i32 _ (by omega) (by omega))
          have hval : plainElem (H := Unit) Tryz.prog 5 (.int .u8 (b : Int)) = some (.lit (.int .u8 (b : Int)), []) := plainElem_int Tryz.underlying5 (wf_u8 _ (by omega) (by omega))
          have hmx : b - 160 < maxLen := by unfold maxLen; omega
          have HR1 : Hid (Mp k (b + 1 - 160) = (Mp k (b - 160)).put (.int .i32 (r : Int)) (.lit (.int .u8 (b : Int)))) := by
            have := HRr.out
            rw [if_neg (by omega)] at this
            exact this
          clear HRr cM
          go_wp2_with (first | (at_mapUpdate; refine wpList_mapUpdate_own _ rfl _ _ _ 133 rfl 21 5 law21 Tryz.underlying133 _ M (b - 160) _ rfl HO.out hmx _ _ _ rfl rfl hkey _ [] hval ?_; intro w1 hown1 hgrow1) | go_in)
          have HO1 : Hid (w1.ownsMap Tryz.prog 21 (plainElem (H := Unit) Tryz.prog 5) M (b + 1 - 160) (Mp k (b + 1 - 160))) := by rw [HR1.out, HSZ.out]; exact hown1
          have HB1 : Hid (Below M W1 w1) := HBr.out.trans ⟨hgrow1.os, hgrow1.tape, hgrow1.output, hgrow1.size, fun q hq => hgrow1.block q (by have := HBr.out.size; have h2 := HMl.out.1; omega) (by simp; omega)⟩
          clear hown1 hgrow1
          go_roundw
          case rel => exact ⟨b + 1, by simp, by omega, by omega, HB1.out, HO1.out⟩
          case measure => simp [intOf]; omega
      · obtain rfl : b = 256 := by omega
        clear hown hbr hTr
        go_wp2
        go_end0
        exact ⟨rfl, HBr.out, HO.out⟩)

/-- The byte that stands for a rune: 0, if none does. -/
def byteL (k : Nat) (r : Int) : Nat → Nat
  | 0 => 0
  | d + 1 => if r = (mean k d : Nat) ∧ mean k d ≠ 0 then 160 + d else byteL k r d
def byteOf (k : Nat) (r : Int) : Nat := byteL k r 96

theorem Mp_map (k : Nat) : ∀ d, IsMap (Mp k d)
  | 0 => ⟨[], rfl⟩
  | d + 1 => by
    rw [Mp]
    split
    · exact Mp_map k d
    · obtain ⟨es, h⟩ := Mp_map k d
      rw [h]
      exact ⟨_, rfl⟩
theorem Mp_at (k : Nat) (r : Int) : ∀ d, (Mp k d).atKey (.int .i32 r) (.lit (.int .u8 0)) = .lit (.int .u8 (byteL k r d : Nat))
  | 0 => rfl
  | d + 1 => by
    rw [Mp, byteL]
    by_cases h0 : mean k d = 0
    · rw [if_pos h0, if_neg (fun h => h.2 h0)]
      exact Mp_at k r d
    · rw [if_neg h0]
      by_cases hr : r = (mean k d : Nat)
      · rw [if_pos ⟨hr, h0⟩, hr]
        exact atKey_put_same (Mp_map k d) (by trivial) _ _
      · rw [if_neg (fun h => hr h.1), atKey_put_other (by intro e; cases e; exact hr rfl)]
        exact Mp_at k r d
end Go.Proofs.YtegfgbcimlacbaaGreatDoor
