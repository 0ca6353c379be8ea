import Derived.Test.YtehgeninocbpeaaGreatDoorYDc
import Derived.Deep.Cut
import Derived.Deep.CutRange
namespace Go.Proofs.YtehgeninocbpeaaGreatDoor.Nu
open Go Go.Proofs Go.RowKit NumLine
def fN : Nat → Value := fun k => if k = 0 then .slice none 0 0 else .int .i64 0
def notStr : Value → Bool
  | .string _ => false
  | _ => true
theorem RErr.tset {W : World} {v : Value} {o : Option (Int × Int)} (h : RErr W v o) {B : Nat} {x : Value} (hx : notStr x = true) (h0 : W.cell? ⟨B, 0, none⟩ = some x) (i : Nat) (u : Value) : RErr (W.setCell ⟨B, i, none⟩ u) v o := by
  cases o with
  | none => exact h
  | some y =>
    obtain ⟨q, k, rfl, h1, h2⟩ := h
    have hne : q ≠ B := by rintro rfl; rw [h0] at h1; obtain rfl := Option.some.inj h1; cases hx
    have hb : (W.setCell ⟨B, i, none⟩ u).heap[q]? = W.heap[q]? := Below.heap_setCell W ⟨B, i, none⟩ u q hne
    exact ⟨q, k, rfl, (World.cell?_of_block (w := W) hb).trans h1, (World.cell?_of_block (w := W) hb).trans h2⟩
def putF (W : World) (B : Nat) (a b : Value) : World := (W.setCell ⟨B, 0, none⟩ a).setCell ⟨B, 1, none⟩ b
theorem putF_all {W : World} {B : Nat} (hr : W.rowIs B 35 2 fN) (a b : Value) (ha : notStr a = true) :
    (W.setCell ⟨B, 0, none⟩ a).cell? ⟨B, 0, none⟩ = some a ∧ (putF W B a b).cell? ⟨B, 1, none⟩ = some b ∧ (∀ {v o}, RErr W v o → RErr (putF W B a b) v o) := by
  have r1 := hr.set 0 a
  have r2 := r1.set 1 b
  refine ⟨r1.cell (i := 0) (by omega), r2.cell (i := 1) (by omega), fun h => ?_⟩
  exact (h.tset (x := .slice none 0 0) rfl (hr.cell (i := 0) (by omega)) 0 _).tset ha (r1.cell (i := 0) (by omega)) 1 _
theorem putF_below {w W : World} {B0 B : Nat} (h : Below B0 w W) (hB : B0 ≤ B) (a b : Value) : Below B0 w (putF W B a b) :=
  (h.setCell (p := ⟨B, 0, none⟩) hB _).setCell (p := ⟨B, 1, none⟩) hB _
theorem frow (w : World) : (w.alloc (.cells #[.slice none 0 0, .int .i64 0] 35)).rowIs w.heap.size 35 2 fN :=
  World.rowIs_alloc w #[.slice none 0 0, .int .i64 0] 35 fN (fun i hi => by
    have h3 : i = 0 ∨ i = 1 := by simp at hi; omega
    rcases h3 with rfl | rfl <;> rfl)
structure FC (w W : World) (B : Nat) : Prop where
  row : W.rowIs B 35 2 fN
  bel : Below B w W
theorem FC.start (w : World) : FC w (w.alloc (.cells #[.slice none 0 0, .int .i64 0] 35)) w.heap.size := ⟨frow w, (Below.refl _ _).alloc (Nat.le_refl _) _⟩
theorem FC.on {w W W' : World} {B : Nat} (h : FC w W B) (hb : Below W.heap.size W W') : FC w W' B :=
  ⟨h.row.of_block (hb.block B h.row.lt), h.bel.trans (hb.mono (Nat.le_of_lt h.row.lt))⟩
theorem FC.facts {w W : World} {B : Nat} (h : FC w W B) : W.cell? ⟨B, 0, none⟩ = some (.slice none 0 0) ∧ W.cell? ⟨B, 1, none⟩ = some (.int .i64 0) ∧ (∀ i, W.frozen? ⟨B, i, none⟩ = false) :=
  ⟨h.row.cell (i := 0) (by omega), h.row.cell (i := 1) (by omega), fun i => h.row.frozen i⟩
def PostF (w : World) (V : Value) (o : Option (Int × Int)) (e : Ending) (w' : World) : Prop := ∃ v, e = .returned (.tuple #[V, v]) ∧ RErr w' v o ∧ Below w.heap.size w w'
def PostP (w : World) (V : Value) (o : Option (Int × Int)) (e : Ending) (w' : World) : Prop := ∃ v, e = .returned (.tuple #[V, v]) ∧ PErr w' v o ∧ Below w.heap.size w w'
def wP (s : ByteArray) : Nat := tP s 0 43 45
def wC (s : ByteArray) : Nat := cnt s (wP s) s.size
def wrong (n : Int) : Prop := n < -2147483648 ∨ 2147483647 < n
instance (n : Int) : Decidable (wrong n) := by unfold wrong; infer_instance
def WR (s : ByteArray) : Int × Option (Int × Int) :=
  if 12 < s.size then (0, some (12, 103)) else if wC s < 1 ∨ wP s + wC s < s.size then (0, some ((wP s + wC s : Nat), 100)) else if wrong (whV s 0) then (0, some (0, 101)) else (whV s 0, none)
theorem WR_long {s : ByteArray} (h : 12 < s.size) : WR s = (0, some (12, 103)) := by unfold WR; rw [if_pos h]
theorem WR_bad {s : ByteArray} (h : ¬ 12 < s.size) (h2 : wC s < 1 ∨ wP s + wC s < s.size) : WR s = (0, some (((wP s + wC s : Nat) : Int), (100 : Int))) := by unfold WR; rw [if_neg h, if_pos h2]
theorem WR_far {s : ByteArray} (h : ¬ 12 < s.size) (h2 : ¬ (wC s < 1 ∨ wP s + wC s < s.size)) (h3 : wrong (whV s 0)) : WR s = (0, some (0, 101)) := by unfold WR; rw [if_neg h, if_neg h2, if_pos h3]
theorem WR_ok {s : ByteArray} (h : ¬ 12 < s.size) (h2 : ¬ (wC s < 1 ∨ wP s + wC s < s.size)) (h3 : ¬ wrong (whV s 0)) : WR s = (whV s 0, none) := by unfold WR; rw [if_neg h, if_neg h2, if_neg h3]
theorem isWhole_any (w : World) (n : Int) : Calls Tryz.prog 71 #[.int .i64 n] w fun e w' => e = .returned (.bool (decide (¬ wrong n))) ∧ w = w' := by
  unfold wrong
  by_cases h1 : -2147483648 ≤ n
  · have a1 : decide (-2147483648 ≤ n) = true := by simp; exact h1
    by_cases h2 : n ≤ 2147483647
    · have a2 : decide (n ≤ 2147483647) = true := by simp; exact h2
      rw [decide_eq_true (by omega)]
      go_enter Tryz.func71, Tryz.ntmps71
      go_wp2
      go_ret
      exact ⟨by first | rfl | simp, rfl⟩
    · have a2 : decide (n ≤ 2147483647) = false := by simp; omega
      rw [decide_eq_false (by omega)]
      go_enter Tryz.func71, Tryz.ntmps71
      go_wp2
      go_ret
      exact ⟨by first | rfl | simp, rfl⟩
  · have a1 : decide (-2147483648 ≤ n) = false := by simp; omega
    rw [decide_eq_false (by omega)]
    go_enter Tryz.func71, Tryz.ntmps71
    go_wp2
    go_ret
    exact ⟨by first | rfl | simp, rfl⟩
def cf0 (s : ByteArray) : Nat → Value
  | 0 => .string s
  | 1 => .int .i64 0
  | _ => .bool false
theorem cstart (w : World) (s : ByteArray) : Cur (w.alloc (.cells #[.string s, .int .i64 0, .bool false] 105)) w.heap.size (cf0 s) s 0 false := by
  refine ⟨World.rowIs_alloc w #[.string s, .int .i64 0, .bool false] 105 (cf0 s) (fun i hi => by
    have h3 : i = 0 ∨ i = 1 ∨ i = 2 := by simp at hi; omega
    rcases h3 with rfl | rfl | rfl <;> rfl), rfl, rfl, rfl⟩
theorem grown_below0 {w W W' : World} {q : Nat} (h : Below q w W) (hg : W.grownBy W' (some q)) (hq : q < W.heap.size) : Below q w W' :=
  h.grown hg (Nat.le_of_lt hq) (fun k hk => by cases hk; omega)
set_option maxRecDepth 100000 in
set_option maxHeartbeats 1000000 in
theorem pwhole_any (w : World) (s : ByteArray) : Calls Tryz.prog 42 #[.string s] w (PostP w (.int .i64 (WR s).1) (WR s).2) := by
  obtain ⟨R1, R2, hR⟩ : ∃ a o, WR s = (a, o) := ⟨_, _, rfl⟩
  rw [hR]
  have HR : Hid (WR s = (R1, R2)) := hR
  clear hR
  dsimp only
  by_cases h12 : 12 < s.size
  · obtain ⟨rfl, rfl⟩ := Prod.mk.inj (HR.out.symm.trans (WR_long h12))
    clear HR
    have hI : (12 : Int) < (s.size : Int) := by omega
    have c17 := refusal_any 12 103 w
    go_enter Tryz.func42, Tryz.ntmps42
    go_wp2_with (go_at_call 46; refine Stop.mk ?_)
    refine Stop.out (c17.mono ?_)
    rintro e W1 ⟨v, rfl, hv, hb⟩
    have HV : Hid (PErr W1 v (some (12, 103))) := hv
    have HB : Hid (Below w.heap.size w W1) := hb
    clear hv hb c17
    go_wp2
    refine bodyPost_ret (v := .tuple #[.int .i64 0, v]) (by simp [results, Tryz.results42, go_sem]) rfl ⟨v, rfl, HV.out, HB.out⟩
  · have hI : ¬ ((12 : Int) < (s.size : Int)) := by omega
    have C0 := cstart w s
    have HB0 : Hid (Below w.heap.size w (w.alloc (.cells #[.string s, .int .i64 0, .bool false] 105))) := (Below.refl _ _).alloc (Nat.le_refl _) _
    have c20 := whole_any _ w.heap.size (cf0 s) s 0 (wP s) (wC s) C0 (Nat.zero_le _) (by omega) rfl rfl
    have HL : Hid (w.heap.size < (w.alloc (.cells #[.string s, .int .i64 0, .bool false] 105)).heap.size) := C0.lt
    obtain ⟨V, hV⟩ : ∃ V, whV s 0 = V := ⟨_, rfl⟩
    rw [hV] at c20
    have HV0 : Hid (whV s 0 = V) := hV
    clear C0 hV
    go_enter Tryz.func42, Tryz.ntmps42
    go_wp2_with (go_at_call 69; refine Stop.mk ?_)
    refine Stop.out (c20.mono ?_)
    rintro e W1 ⟨f1, rfl, hc1, hg1⟩
    have HB1 : Hid (Below w.heap.size w W1) := grown_below0 HB0.out hg1 HL.out
    clear c20 hg1 HB0 HL
    by_cases hbad : wC s < 1 ∨ wP s + wC s < s.size
    · obtain ⟨rfl, rfl⟩ := Prod.mk.inj (HR.out.symm.trans (WR_bad h12 hbad))
      have c21 := end78_any W1 w.heap.size f1 s (wP s + wC s) (decide (wC s < 1)) hc1 (some (((wP s + wC s : Nat) : Int), 100)) (.inl ⟨by rcases hbad with h | h; exact .inl (decide_eq_true h); exact .inr h, rfl⟩)
      generalize wP s + wC s = K at *
      clear hc1 hbad
      go_wp2_with (go_at_call 70; refine Stop.mk ?_)
      refine Stop.out (c21.mono ?_)
      rintro e W2 ⟨v, rfl, hv, hb⟩
      have HV : Hid (PErr W2 v (some ((K : Int), 100))) := hv
      have HB : Hid (Below w.heap.size w W2) := HB1.out.trans (hb.mono HB1.out.size)
      obtain ⟨q, rfl, _⟩ := hv
      clear hb c21
      go_wp2
      refine bodyPost_ret (v := .tuple #[.int .i64 0, .iface 88 (.pointer (some ⟨q, 0, none⟩))]) (by simp [results, Tryz.results42, go_sem]) rfl ⟨_, rfl, HV.out, HB.out⟩
    · have HBad : Hid (¬ (wC s < 1 ∨ wP s + wC s < s.size)) := hbad
      have c21 := end78_any W1 w.heap.size f1 s (wP s + wC s) (decide (wC s < 1)) hc1 none (.inr ⟨⟨decide_eq_false (fun h => hbad (.inl h)), fun h => hbad (.inr h)⟩, rfl⟩)
      clear hc1 hbad
      go_wp2_with (go_at_call 70; refine Stop.mk ?_)
      refine Stop.out (c21.mono ?_)
      rintro e W2 ⟨v, rfl, hv, hb⟩
      obtain rfl : v = .nilIface := hv
      have HB : Hid (Below w.heap.size w W2) := HB1.out.trans (hb.mono HB1.out.size)
      have c30 := isWhole_any W2 V
      clear hb c21
      by_cases hw : wrong V
      · obtain ⟨rfl, rfl⟩ := Prod.mk.inj (HR.out.symm.trans (WR_far h12 HBad.out (HV0.out.symm ▸ hw)))
        rw [decide_eq_false (not_not_intro hw)] at c30
        have c17 := refusal_any 0 101 W2
        go_wp2_with (go_at_call 71; refine Stop.mk ?_)
        refine Stop.out (c30.mono ?_)
        rintro e W3 ⟨rfl, rfl⟩
        go_wp2_with (go_at_call 46; refine Stop.mk ?_)
        refine Stop.out (c17.mono ?_)
        rintro e W4 ⟨v, rfl, hv, hb⟩
        have HV : Hid (PErr W4 v (some (0, 101))) := hv
        have HB4 : Hid (Below w.heap.size w W4) := HB.out.trans (hb.mono HB.out.size)
        clear hv hb c17 c30
        go_wp2
        refine bodyPost_ret (v := .tuple #[.int .i64 0, v]) (by simp [results, Tryz.results42, go_sem]) rfl ⟨v, rfl, HV.out, HB4.out⟩
      · obtain ⟨rfl, rfl⟩ := Prod.mk.inj (HR.out.symm.trans ((WR_ok h12 HBad.out (HV0.out.symm ▸ hw)).trans (by rw [HV0.out])))
        rw [decide_eq_true hw] at c30
        go_wp2_with (go_at_call 71; refine Stop.mk ?_)
        refine Stop.out (c30.mono ?_)
        rintro e W3 ⟨rfl, rfl⟩
        go_wp2
        refine bodyPost_ret (v := .tuple #[.int .i64 R1, .nilIface]) (by simp [results, Tryz.results42, go_sem]) rfl ⟨_, rfl, rfl, HB.out⟩
end Go.Proofs.YtehgeninocbpeaaGreatDoor.Nu

namespace Go.Proofs.YtehgeninocbpeaaGreatDoor.Nu
open Go Go.Proofs Go.RowKit NumLine
def sg (s : ByteArray) (a x y : Nat) : Bool := decide (nx s a false = x ∨ nx s a false = y)
theorem sg_no {s : ByteArray} {a x y : Nat} (h : ¬ a < s.size) (hx : x ≠ 0) (hy : y ≠ 0) : sg s a x y = false := by
  unfold sg nx
  rw [if_pos (.inr h)]
  exact decide_eq_false (by omega)
theorem nx_at {s : ByteArray} {a c : Nat} (h : a < s.size) (hc : s[a].toNat = c) : nx s a false = c := by
  unfold nx
  rw [if_neg (by simp; exact h), ← get_get! s a h, hc]
theorem sg_at {s : ByteArray} {a x y c : Nat} (h : a < s.size) (hc : s[a].toNat = c) : sg s a x y = decide (c = x ∨ c = y) := by
  unfold sg
  rw [nx_at h hc]
theorem tP_sg (s : ByteArray) (a x y : Nat) : tP s a x y = if sg s a x y = true then a + 1 else a := by
  unfold tP sg
  by_cases h : nx s a false = x ∨ nx s a false = y
  · rw [if_pos h, if_pos (decide_eq_true h)]
  · rw [if_neg h, if_neg (by simp only [decide_eq_true_eq]; exact h)]
theorem wP_le (s : ByteArray) : wP s ≤ s.size := tP_le (Nat.zero_le _) (by decide) (by decide)
theorem wC_le (s : ByteArray) : wP s + wC s ≤ s.size := cnt_size s s.size _ (wP_le s)
set_option maxRecDepth 100000 in
set_option maxHeartbeats 1000000 in
theorem rwhole_any (w : World) (s : ByteArray) : Calls Tryz.prog 33 #[.string s] w (PostF w (.int .i64 (WR s).1) (WR s).2) := by
  obtain ⟨R1, R2, hR⟩ : ∃ a o, WR s = (a, o) := ⟨_, _, rfl⟩
  rw [hR]
  have HR : Hid (WR s = (R1, R2)) := hR
  clear hR
  dsimp only
  obtain ⟨W0, hW0⟩ : ∃ W0, w.alloc (.cells #[.slice none 0 0, .int .i64 0] 35) = W0 := ⟨_, rfl⟩
  have HF : Hid (FC w W0 w.heap.size) := hW0 ▸ FC.start w
  by_cases h12 : 12 < s.size
  · obtain ⟨rfl, rfl⟩ := Prod.mk.inj (HR.out.symm.trans (WR_long h12))
    clear HR
    have hI : (12 : Int) < (s.size : Int) := by omega
    have c31 := no_any 12 103 W0
    go_enter Tryz.func33, Tryz.ntmps33
    go_wp2_with (go_at_call 31; refine Stop.mk ?_)
    refine Stop.out (c31.mono ?_)
    rintro e W1 ⟨v, rfl, hv, hb⟩
    have F1 := HF.out.on hb
    have HV : Hid (RErr W1 v (some (12, 103))) := hv
    obtain ⟨g, k, rfl, _, _⟩ := hv
    obtain ⟨a0, a1, af⟩ := F1.facts
    obtain ⟨p0, p1, p2⟩ := putF_all F1.row (.slice (some ⟨g, 0, none⟩) 1 k) (.int .i64 103) rfl
    have HB : Hid _ := putF_below F1.bel (Nat.le_refl _) (.slice (some ⟨g, 0, none⟩) 1 k) (.int .i64 103)
    have HV2 : Hid (RErr _ _ _) := p2 HV.out
    clear hb c31 F1 hW0 HF
    unfold putF at *
    go_wp2
    refine bodyPost_ret (v := .tuple #[.int .i64 0, .agg #[.slice (some ⟨g, 0, none⟩) 1 k, .int .i64 103]]) (by simp [results, Tryz.results33, go_sem, p0, p1]) rfl ⟨_, rfl, HV2.out, HB.out⟩
  · have hI : ¬ ((12 : Int) < (s.size : Int)) := by omega
    have hs : s.size ≤ 12 := by omega
    obtain ⟨b, hb⟩ : ∃ b, sg s 0 43 45 = b := ⟨_, rfl⟩
    have HB : Hid (sg s 0 43 45 = b) := hb
    clear hb
    go_enter Tryz.func33, Tryz.ntmps33
    go_upto_region 4 with fail
    go_cut [26] from 7 (fun s26 wx => s26 = .bool b ∧ wx = W0)
    case first =>
      clear HF hW0 HR
      by_cases hl : 0 < s.size
      · have hlI : (0 : Int) < (s.size : Int) := by omega
        have hlI2 : decide ((0 : Int) < (s.size : Int)) = true := by simp; omega
        obtain ⟨c, hc⟩ : ∃ c, s[0].toNat = c := ⟨_, rfl⟩
        have hsg := HB.out.symm.trans (sg_at (x := 43) (y := 45) hl hc)
        by_cases h43 : c = 43
        · have e1 : ((c : Int) == 43) = true := by rw [h43]; rfl
          rw [decide_eq_true (.inl h43)] at hsg
          subst hsg
          clear h43
          go_wp2
          go_meet
          case rel => exact ⟨by first | rfl | simp, rfl⟩
        · have e1 : ((c : Int) == 43) = false := by simp; omega
          by_cases h45 : c = 45
          · have e2 : ((c : Int) == 45) = true := by rw [h45]; rfl
            rw [decide_eq_true (.inr h45)] at hsg
            subst hsg
            clear h43 h45
            go_wp2
            go_meet
            case rel => exact ⟨by first | rfl | simp, rfl⟩
          · have e2 : ((c : Int) == 45) = false := by simp; omega
            rw [decide_eq_false (by omega)] at hsg
            subst hsg
            clear h43 h45
            go_wp2
            go_meet
            case rel => exact ⟨by first | rfl | simp, rfl⟩
      · have hsg := HB.out.symm.trans (sg_no (x := 43) (y := 45) hl (by decide) (by decide))
        subst hsg
        have hlI2 : decide ((0 : Int) < (s.size : Int)) = false := decide_eq_false (by omega)
        have hlI3 : decide (0 < s.size) = false := decide_eq_false hl
        go_wp2
        go_meet
        case rel => exact ⟨by first | rfl | simp, rfl⟩
    case rest =>
      obtain ⟨rfl, rfl⟩ := hcut
      have hp := tP_sg s 0 43 45
      rw [HB.out] at hp
      have HP : Hid (wP s = if b = true then 0 + 1 else 0) := hp
      have hple := wP_le s
      have hcle := wC_le s
      have c32 := digits32_any wc s (wP s) 12 hple (by omega) (by omega)
      rw [cnt_more s 12 s.size (wP s) (by omega) (by omega)] at c32
      obtain ⟨p, hpp⟩ : ∃ p, wP s = p := ⟨_, rfl⟩
      obtain ⟨C, hCC⟩ : ∃ C, wC s = C := ⟨_, rfl⟩
      have HC : Hid (wC s = C) := hCC
      have HPP : Hid (wP s = p) := hpp
      unfold wC at hCC
      rw [hpp] at hCC
      rw [hpp, hCC] at c32
      rw [HPP.out, HC.out] at hcle
      rw [HPP.out] at HP
      clear hp hpp hple
      go_upto_if 26 with fail
      go_cut [4] from 7 (fun s4 wx => s4 = .int .i64 (p : Int) ∧ wx = wc)
      case first =>
        cases b with
        | true =>
          have hq := HP.out
          rw [if_pos rfl] at hq
          subst hq
          clear HF c32
          go_wp2
          go_meet
          case rel => exact ⟨by first | rfl | simp, rfl⟩
        | false =>
          have hq := HP.out
          rw [if_neg (by decide)] at hq
          subst hq
          clear HF c32
          go_wp2
          go_meet
          case rel => exact ⟨by first | rfl | simp, rfl⟩
      case rest =>
        obtain ⟨rfl, rfl⟩ := hcut
        go_wp2_with (go_at_call 56; refine Stop.mk ?_)
        refine Stop.out (c32.mono ?_)
        rintro e W1 ⟨rfl, rfl⟩
        clear c32
        by_cases hbad : C < 1 ∨ p + C < s.size
        · obtain ⟨rfl, rfl⟩ := Prod.mk.inj (HR.out.symm.trans (WR_bad h12 (by rw [HC.out, HPP.out]; exact hbad)))
          have c31 := no_any ((p : Int) + (C : Int)) 100 wc
          have HPC : Hid (((wP s + wC s : Nat) : Int) = (p : Int) + (C : Int)) := by show _ = _; rw [HC.out, HPP.out]; omega
          have hb2 : ((C : Int) == 0) = true ∨ (((C : Int) == 0) = false ∧ (p : Int) + (C : Int) < (s.size : Int)) := by
            by_cases h0 : C = 0
            · exact .inl (by rw [h0]; rfl)
            · exact .inr ⟨by simp; exact h0, by rcases hbad with h | h <;> omega⟩
          clear hbad HC HPP HP HB hCC
          rcases hb2 with hb2 | ⟨hb2, hb3⟩
          all_goals
            go_wp2_with (go_at_call 31; refine Stop.mk ?_)
            refine Stop.out (c31.mono ?_)
            rintro e W1 ⟨v, rfl, hv, hb⟩
            have F1 := HF.out.on hb
            have HV : Hid (RErr W1 v (some ((p : Int) + (C : Int), 100))) := hv
            obtain ⟨g, k, rfl, _, _⟩ := hv
            obtain ⟨a0, a1, af⟩ := F1.facts
            obtain ⟨p0, p1, p2⟩ := putF_all F1.row (.slice (some ⟨g, 0, none⟩) 1 k) (.int .i64 100) rfl
            have HB : Hid _ := putF_below F1.bel (Nat.le_refl _) (.slice (some ⟨g, 0, none⟩) 1 k) (.int .i64 100)
            have HV2 : Hid (RErr _ _ _) := p2 HV.out
            clear hb c31 F1 hW0 HF HV
            unfold putF at *
            go_wp2
            refine bodyPost_ret (v := .tuple #[.int .i64 0, .agg #[.slice (some ⟨g, 0, none⟩) 1 k, .int .i64 100]]) (by simp [results, Tryz.results33, go_sem, p0, p1]) rfl ⟨_, rfl, by rw [HPC.out]; exact HV2.out, HB.out⟩
        · have hC0 : ((C : Int) == 0) = false := by simp; omega
          have hpc : p + C = s.size := by omega
          have hpcI : decide ((p : Int) + (C : Int) < (s.size : Int)) = false := by simp; omega
          have hpcI3 : decide (p + C < s.size) = false := by simp; omega
          have hpcI2 : ¬ ((p : Int) + (C : Int) < (s.size : Int)) := by omega
          have hdg : Digs (s.extract p s.size) := by rw [← hpc]; exact digs_ext s p C s.size (by rw [hCC]; exact Nat.le_refl _)
          have hzz : (s.extract p s.size).size ≤ 18 := by rw [ByteArray.size_extract]; omega
          have c33 := number33_any wc (s.extract p s.size) hdg hzz
          have hwv : whV s 0 = if tk s 0 43 45 = 45 then -((val (s.extract p s.size).data.toList : Nat) : Int) else ((val (s.extract p s.size).data.toList : Nat) : Int) := by
            have h1 : tP s 0 43 45 = p := HPP.out
            unfold whV
            dsimp only
            rw [h1, hCC, hpc]
          have hlt := valN_lt (s.extract p s.size).data.toList 0 hdg
          have hlt2 : (s.extract p s.size).data.toList.length ≤ 12 := by rw [Array.length_toList]; show (s.extract p s.size).size ≤ 12; rw [ByteArray.size_extract]; omega
          have hlt3 : 10 ^ (s.extract p s.size).data.toList.length ≤ 10 ^ 12 := Nat.pow_le_pow_right (by decide) hlt2
          have hN12 : val (s.extract p s.size).data.toList ≤ 1000000000000 := by unfold val; omega
          obtain ⟨N, hN⟩ : ∃ N, val (s.extract p s.size).data.toList = N := ⟨_, rfl⟩
          rw [hN] at c33 hwv hN12
          have hs0 : 0 < s.size := by omega
          have hs0I : (0 : Int) < (s.size : Int) := by omega
          obtain ⟨c, hc⟩ : ∃ c, s[0].toNat = c := ⟨_, rfl⟩
          have htk : tk s 0 43 45 = 45 ↔ c = 45 := by
            unfold tk
            rw [nx_at hs0 hc]
            split
            · exact Iff.rfl
            · rename_i hn; constructor
              · intro h; omega
              · intro h; exact absurd (.inr h) hn
          have HWV : Hid (whV s 0 = if c = 45 then -(N : Int) else (N : Int)) := by
            show _ = _
            rw [hwv]
            by_cases h : c = 45
            · rw [if_pos (htk.2 h), if_pos h]
            · rw [if_neg (fun q => h (htk.1 q)), if_neg h]
          have HBad : Hid (¬ (wC s < 1 ∨ wP s + wC s < s.size)) := by show ¬ _; rw [HC.out, HPP.out]; exact hbad
          have hpI : (p : Int) ≤ (s.size : Int) := by omega
          clear hwv htk hlt hlt2 hlt3 hN hdg hzz hbad hCC HC HPP HP HB hpc
          go_wp2_with (go_at_call 57; refine Stop.mk ?_)
          refine Stop.out (c33.mono ?_)
          rintro e W1 ⟨rfl, rfl⟩
          clear c33
          go_upto_region 10 with fail
          obtain ⟨b2, hb2⟩ : ∃ b2, decide (c = 45) = b2 := ⟨_, rfl⟩
          have HB2 : Hid (decide (c = 45) = b2) := hb2
          clear hb2
          go_cut [52] from 7 (fun s52 wx => s52 = .bool b2 ∧ wx = wc)
          case first =>
            by_cases h45 : c = 45
            · have e1 : ((c : Int) == 45) = true := by rw [h45]; rfl
              obtain rfl : b2 = true := HB2.out.symm.trans (decide_eq_true h45)
              clear h45 HF hW0
              go_wp2
              go_meet
              case rel => exact ⟨by first | rfl | simp, rfl⟩
            · have e1 : ((c : Int) == 45) = false := by simp; omega
              obtain rfl : b2 = false := HB2.out.symm.trans (decide_eq_false h45)
              clear h45 HF hW0
              go_wp2
              go_meet
              case rel => exact ⟨by first | rfl | simp, rfl⟩
          case rest =>
            obtain ⟨rfl, rfl⟩ := hcut
            obtain ⟨V, hV⟩ : ∃ V, whV s 0 = V := ⟨_, rfl⟩
            have HV0 : Hid (whV s 0 = V) := hV
            have hb9 : -1000000000000 ≤ V ∧ V ≤ 1000000000000 := by
              rw [← hV, HWV.out]
              split <;> omega
            go_upto_if 52 with fail
            go_cut [6] from 7 (fun s6 wx => s6 = .int .i64 V ∧ wx = wc)
            case first =>
              rw [hV] at HWV
              have hq := HWV.out
              clear hV HV0
              by_cases h45 : c = 45
              · rw [if_pos h45] at hq
                obtain rfl : b2 = true := HB2.out.symm.trans (decide_eq_true h45)
                clear h45 HF hW0 HWV
                subst hq
                go_wp2
                go_meet
                case rel => exact ⟨by first | rfl | simp, rfl⟩
              · rw [if_neg h45] at hq
                obtain rfl : b2 = false := HB2.out.symm.trans (decide_eq_false h45)
                clear h45 HF hW0 HWV
                subst hq
                go_wp2
                go_meet
                case rel => exact ⟨by first | rfl | simp, rfl⟩
            case rest =>
              obtain ⟨rfl, rfl⟩ := hcut
              clear hV
              by_cases hw : wrong V
              · obtain ⟨rfl, rfl⟩ := Prod.mk.inj (HR.out.symm.trans (WR_far h12 HBad.out (HV0.out.symm ▸ hw)))
                have c31 := no_any 0 101 wc
                have hb2 : decide (V < -2147483648) = true ∨ (decide (V < -2147483648) = false ∧ 2147483647 < V) := by
                  unfold wrong at hw
                  by_cases h0 : V < -2147483648
                  · exact .inl (decide_eq_true h0)
                  · exact .inr ⟨decide_eq_false h0, by omega⟩
                clear hw HWV HBad HV0 hpI
                rcases hb2 with hb2 | ⟨hb2, hb3⟩
                all_goals
                  go_wp2_with (go_at_call 31; refine Stop.mk ?_)
                  refine Stop.out (c31.mono ?_)
                  rintro e W1 ⟨v, rfl, hv, hb⟩
                  have F1 := HF.out.on hb
                  have HV : Hid (RErr W1 v (some (0, 101))) := hv
                  obtain ⟨g, k, rfl, _, _⟩ := hv
                  obtain ⟨a0, a1, af⟩ := F1.facts
                  obtain ⟨p0, p1, p2⟩ := putF_all F1.row (.slice (some ⟨g, 0, none⟩) 1 k) (.int .i64 101) rfl
                  have HB : Hid _ := putF_below F1.bel (Nat.le_refl _) (.slice (some ⟨g, 0, none⟩) 1 k) (.int .i64 101)
                  have HV2 : Hid (RErr _ _ _) := p2 HV.out
                  clear hb c31 F1 hW0 HF HV
                  unfold putF at *
                  go_wp2
                  refine bodyPost_ret (v := .tuple #[.int .i64 0, .agg #[.slice (some ⟨g, 0, none⟩) 1 k, .int .i64 101]]) (by simp [results, Tryz.results33, go_sem, p0, p1]) rfl ⟨_, rfl, HV2.out, HB.out⟩
              · obtain ⟨rfl, rfl⟩ := Prod.mk.inj (HR.out.symm.trans ((WR_ok h12 HBad.out (HV0.out.symm ▸ hw)).trans (by rw [HV0.out])))
                have c34 := none34_any wc
                have hb2 : decide (R1 < -2147483648) = false := decide_eq_false (fun h => hw (.inl h))
                have hb3 : decide (2147483647 < R1) = false := decide_eq_false (fun h => hw (.inr h))
                clear hw HWV HBad HV0 hpI
                go_wp2_with (go_at_call 27; refine Stop.mk ?_)
                refine Stop.out (c34.mono ?_)
                rintro e W1 ⟨rfl, hb⟩
                have F1 := HF.out.on hb
                obtain ⟨a0, a1, af⟩ := F1.facts
                obtain ⟨p0, p1, p2⟩ := putF_all F1.row (.slice none 0 0) (.int .i64 0) rfl
                have HB : Hid _ := putF_below F1.bel (Nat.le_refl _) (.slice none 0 0) (.int .i64 0)
                clear hb c34 F1 hW0 HF
                unfold putF at *
                go_wp2
                refine bodyPost_ret (v := .tuple #[.int .i64 R1, .agg #[.slice none 0 0, .int .i64 0]]) (by simp [results, Tryz.results33, go_sem, p0, p1]) rfl ⟨_, rfl, rfl, HB.out⟩
end Go.Proofs.YtehgeninocbpeaaGreatDoor.Nu

namespace Go.Proofs.YtehgeninocbpeaaGreatDoor.Nu
open Go Go.Proofs Go.RowKit NumLine
theorem nx_broken (s : ByteArray) (a : Nat) : nx s a true = 0 := by unfold nx; rw [if_pos (.inl rfl)]
structure Pst (w W : World) (B : Nat) (f : Nat → Value) (s : ByteArray) (a : Nat) (b : Bool) : Prop where
  cur : Cur W (B + 1) f s a b
  row : W.rowIs B 73 3 zf
  bel : Below B w W
theorem Pst.step {w W W' : World} {B : Nat} {f f' : Nat → Value} {s : ByteArray} {a a' : Nat} {b b' : Bool} (h : Pst w W B f s a b) (hc : Cur W' (B + 1) f' s a' b') (hg : W.grownBy W' (some (B + 1))) : Pst w W' B f' s a' b' :=
  ⟨hc, h.row.of_block (hg.block B h.row.lt (by simp)), h.bel.grown hg (Nat.le_of_lt h.row.lt) (fun k hk => by cases hk; omega)⟩
theorem Pst.on {w W W' : World} {B : Nat} {f : Nat → Value} {s : ByteArray} {a : Nat} {b : Bool} (h : Pst w W B f s a b) (hb : Below W.heap.size W W') : Pst w W' B f s a b :=
  ⟨h.cur.on hb, h.row.of_block (hb.block B h.row.lt), h.bel.trans (hb.mono (Nat.le_of_lt h.row.lt))⟩
def cf (s : ByteArray) : Nat → Value
  | 0 => .string s
  | 1 => .int .i64 0
  | _ => .bool false
theorem Pst.start (w : World) (s : ByteArray) : Pst w ((w.alloc (.cells #[.bool false, .int .u64 0, .int .i64 0] 73)).alloc (.cells #[.string s, .int .i64 0, .bool false] 105)) w.heap.size (cf s) s 0 false := by
  refine ⟨⟨?_, rfl, rfl, rfl⟩, (zrow w).alloc _, ((Below.refl _ w).alloc (Nat.le_refl _) _).alloc (by simp) _⟩
  have h := World.rowIs_alloc (w.alloc (.cells #[.bool false, .int .u64 0, .int .i64 0] 73)) #[.string s, .int .i64 0, .bool false] 105 (cf s) (fun i hi => by
    have h3 : i = 0 ∨ i = 1 ∨ i = 2 := by simp at hi; omega
    rcases h3 with rfl | rfl | rfl <;> rfl)
  rw [World.size_alloc] at h
  exact h
end Go.Proofs.YtehgeninocbpeaaGreatDoor.Nu
