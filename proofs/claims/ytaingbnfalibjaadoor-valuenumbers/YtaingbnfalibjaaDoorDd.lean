import Derived.Test.YtaingbnfalibjaaDoorDc
import Derived.Deep.Cut
/-
  DERIVED. The places of the document's answers; ParseWhole of both.
-/
namespace Go.Proofs.YtaingbnfalibjaaDoor
open Go Go.Proofs Go.RowKit NumLine

def fN : Nat → Value := fun k => if k = 0 then .slice none 0 0 else .int .i64 0
def notStr : Value → Bool
  | .string _ => false
  | _ => true
theorem RErr.tset {W : World} {v : Value} {o : Option (Int × Int)} (h : RErr W v o) {B : Nat} {x : Value} (hx : notStr x = true) (h0 : W.cell? ⟨B, 0, none⟩ = some x) (i : Nat) (u : Value) : RErr (W.setCell ⟨B, i, none⟩ u) v o := by
  cases o with
  | none => exact h
  | some y =>
    obtain ⟨q, k, rfl, h1, h2⟩ := h
    have hne : q ≠ B := by rintro rfl; rw [h0] at h1; obtain rfl := Option.some.inj h1; cases hx
    have hb : (W.setCell ⟨B, i, none⟩ u).heap[q]? = W.heap[q]? := Below.heap_setCell W ⟨B, i, none⟩ u q hne
    exact ⟨q, k, rfl, (World.cell?_of_block (w := W) hb).trans h1, (World.cell?_of_block (w := W) hb).trans h2⟩
/-- A fault laid into its cell. -/
def putF (W : World) (B : Nat) (a b : Value) : World := (W.setCell ⟨B, 0, none⟩ a).setCell ⟨B, 1, none⟩ b
theorem putF_all {W : World} {B : Nat} (hr : W.rowIs B 35 2 fN) (a b : Value) (ha : notStr a = true) :
    (W.setCell ⟨B, 0, none⟩ a).cell? ⟨B, 0, none⟩ = some a ∧ (putF W B a b).cell? ⟨B, 1, none⟩ = some b ∧ (∀ {v o}, RErr W v o → RErr (putF W B a b) v o) := by
  have r1 := hr.set 0 a
  have r2 := r1.set 1 b
  refine ⟨r1.cell (i := 0) (by omega), r2.cell (i := 1) (by omega), fun h => ?_⟩
  exact (h.tset (x := .slice none 0 0) rfl (hr.cell (i := 0) (by omega)) 0 _).tset ha (r1.cell (i := 0) (by omega)) 1 _
theorem putF_below {w W : World} {B0 B : Nat} (h : Below B0 w W) (hB : B0 ≤ B) (a b : Value) : Below B0 w (putF W B a b) :=
  (h.setCell (p := ⟨B, 0, none⟩) hB _).setCell (p := ⟨B, 1, none⟩) hB _
theorem frow (w : World) : (w.alloc (.cells #[.slice none 0 0, .int .i64 0] 35)).rowIs w.heap.size 35 2 fN :=
  World.rowIs_alloc w #[.slice none 0 0, .int .i64 0] 35 fN (fun i hi => by
    have h3 : i = 0 ∨ i = 1 := by simp at hi; omega
    rcases h3 with rfl | rfl <;> rfl)
/-- The place of one fault that is to be told. -/
structure FC (w W : World) (B : Nat) : Prop where
  row : W.rowIs B 35 2 fN
  bel : Below B w W
theorem FC.start (w : World) : FC w (w.alloc (.cells #[.slice none 0 0, .int .i64 0] 35)) w.heap.size := ⟨frow w, (Below.refl _ _).alloc (Nat.le_refl _) _⟩
theorem FC.on {w W W' : World} {B : Nat} (h : FC w W B) (hb : Below W.heap.size W W') : FC w W' B :=
  ⟨h.row.of_block (hb.block B h.row.lt), h.bel.trans (hb.mono (Nat.le_of_lt h.row.lt))⟩
theorem FC.facts {w W : World} {B : Nat} (h : FC w W B) : W.cell? ⟨B, 0, none⟩ = some (.slice none 0 0) ∧ W.cell? ⟨B, 1, none⟩ = some (.int .i64 0) ∧ (∀ i, W.frozen? ⟨B, i, none⟩ = false) :=
  ⟨h.row.cell (i := 0) (by omega), h.row.cell (i := 1) (by omega), fun i => h.row.frozen i⟩
def PostF (w : World) (V : Value) (o : Option (Int × Int)) (e : Ending) (w' : World) : Prop := ∃ v, e = .returned (.tuple #[V, v]) ∧ RErr w' v o ∧ Below w.heap.size w w'
def PostP (w : World) (V : Value) (o : Option (Int × Int)) (e : Ending) (w' : World) : Prop := ∃ v, e = .returned (.tuple #[V, v]) ∧ PErr w' v o ∧ Below w.heap.size w w'

def wP (s : ByteArray) : Nat := tP s 0 43 45
def wC (s : ByteArray) : Nat := cnt s (wP s) s.size
def wrong (n : Int) : Prop := n < -2147483648 ∨ 2147483647 < n
instance (n : Int) : Decidable (wrong n) := by unfold wrong; infer_instance
/-- What ParseWhole tells. -/
def WR (s : ByteArray) : Int × Option (Int × Int) :=
  if 12 < s.size then (0, some (12, 103)) else if wC s < 1 ∨ wP s + wC s < s.size then (0, some ((wP s + wC s : Nat), 100)) else if wrong (whV s 0) then (0, some (0, 101)) else (whV s 0, none)

theorem WR_long {s : ByteArray} (h : 12 < s.size) : WR s = (0, some (12, 103)) := by unfold WR; rw [if_pos h]
theorem WR_bad {s : ByteArray} (h : ¬ 12 < s.size) (h2 : wC s < 1 ∨ wP s + wC s < s.size) : WR s = (0, some (((wP s + wC s : Nat) : Int), (100 : Int))) := by unfold WR; rw [if_neg h, if_pos h2]
theorem WR_far {s : ByteArray} (h : ¬ 12 < s.size) (h2 : ¬ (wC s < 1 ∨ wP s + wC s < s.size)) (h3 : wrong (whV s 0)) : WR s = (0, some (0, 101)) := by unfold WR; rw [if_neg h, if_neg h2, if_pos h3]
theorem WR_ok {s : ByteArray} (h : ¬ 12 < s.size) (h2 : ¬ (wC s < 1 ∨ wP s + wC s < s.size)) (h3 : ¬ wrong (whV s 0)) : WR s = (whV s 0, none) := by unfold WR; rw [if_neg h, if_neg h2, if_neg h3]

theorem isWhole_any (w : World) (n : Int) : Calls Tryd.prog 30 #[.int .i64 n] w fun e w' => e = .returned (.bool (decide (¬ wrong n))) ∧ w = w' := by
  unfold wrong
  by_cases h1 : -2147483648 ≤ n
  · have a1 : decide (-2147483648 ≤ n) = true := by simp; exact h1
    by_cases h2 : n ≤ 2147483647
    · have a2 : decide (n ≤ 2147483647) = true := by simp; exact h2
      rw [decide_eq_true (by omega)]
      go_enter Tryd.func30, Tryd.ntmps30
      go_wp2
      go_ret
      exact ⟨by first | rfl | simp, rfl⟩
    · have a2 : decide (n ≤ 2147483647) = false := by simp; omega
      rw [decide_eq_false (by omega)]
      go_enter Tryd.func30, Tryd.ntmps30
      go_wp2
      go_ret
      exact ⟨by first | rfl | simp, rfl⟩
  · have a1 : decide (-2147483648 ≤ n) = false := by simp; omega
    rw [decide_eq_false (by omega)]
    go_enter Tryd.func30, Tryd.ntmps30
    go_wp2
    go_ret
    exact ⟨by first | rfl | simp, rfl⟩

def cf0 (s : ByteArray) : Nat → Value
  | 0 => .string s
  | 1 => .int .i64 0
  | _ => .bool false
theorem cstart (w : World) (s : ByteArray) : Cur (w.alloc (.cells #[.string s, .int .i64 0, .bool false] 52)) w.heap.size (cf0 s) s 0 false := by
  refine ⟨World.rowIs_alloc w #[.string s, .int .i64 0, .bool false] 52 (cf0 s) (fun i hi => by
    have h3 : i = 0 ∨ i = 1 ∨ i = 2 := by simp at hi; omega
    rcases h3 with rfl | rfl | rfl <;> rfl), rfl, rfl, rfl⟩
theorem grown_below0 {w W W' : World} {q : Nat} (h : Below q w W) (hg : W.grownBy W' (some q)) (hq : q < W.heap.size) : Below q w W' :=
  h.grown hg (Nat.le_of_lt hq) (fun k hk => by cases hk; omega)

set_option maxRecDepth 100000 in
set_option maxHeartbeats 1000000 in
theorem pwhole_any (w : World) (s : ByteArray) : Calls Tryd.prog 10 #[.string s] w (PostP w (.int .i64 (WR s).1) (WR s).2) := by
  obtain ⟨R1, R2, hR⟩ : ∃ a o, WR s = (a, o) := ⟨_, _, rfl⟩
  rw [hR]
  have HR : Hid (WR s = (R1, R2)) := hR
  clear hR
  dsimp only
  by_cases h12 : 12 < s.size
  · obtain ⟨rfl, rfl⟩ := Prod.mk.inj (HR.out.symm.trans (WR_long h12))
    clear HR
    have hI : (12 : Int) < (s.size : Int) := by omega
    have c17 := refusal_any 12 103 w
    go_enter Tryd.func10, Tryd.ntmps10
    go_wp2_with (go_at_call 17; refine Stop.mk ?_)
    refine Stop.out (c17.mono ?_)
    rintro e W1 ⟨v, rfl, hv, hb⟩
    have HV : Hid (PErr W1 v (some (12, 103))) := hv
    have HB : Hid (Below w.heap.size w W1) := hb
    clear hv hb c17
    go_wp2
    refine bodyPost_ret (v := .tuple #[.int .i64 0, v]) (by simp [results, Tryd.results10, go_sem]) rfl ⟨v, rfl, HV.out, HB.out⟩
  · have hI : ¬ ((12 : Int) < (s.size : Int)) := by omega
    have C0 := cstart w s
    have HB0 : Hid (Below w.heap.size w (w.alloc (.cells #[.string s, .int .i64 0, .bool false] 52))) := (Below.refl _ _).alloc (Nat.le_refl _) _
    have c20 := whole_any _ w.heap.size (cf0 s) s 0 (wP s) (wC s) C0 (Nat.zero_le _) (by omega) rfl rfl
    have HL : Hid (w.heap.size < (w.alloc (.cells #[.string s, .int .i64 0, .bool false] 52)).heap.size) := C0.lt
    obtain ⟨V, hV⟩ : ∃ V, whV s 0 = V := ⟨_, rfl⟩
    rw [hV] at c20
    have HV0 : Hid (whV s 0 = V) := hV
    clear C0 hV
    go_enter Tryd.func10, Tryd.ntmps10
    go_wp2_with (go_at_call 20; refine Stop.mk ?_)
    refine Stop.out (c20.mono ?_)
    rintro e W1 ⟨f1, rfl, hc1, hg1⟩
    have HB1 : Hid (Below w.heap.size w W1) := grown_below0 HB0.out hg1 HL.out
    clear c20 hg1 HB0 HL
    by_cases hbad : wC s < 1 ∨ wP s + wC s < s.size
    · obtain ⟨rfl, rfl⟩ := Prod.mk.inj (HR.out.symm.trans (WR_bad h12 hbad))
      have c21 := end78_any W1 w.heap.size f1 s (wP s + wC s) (decide (wC s < 1)) hc1 (some (((wP s + wC s : Nat) : Int), 100)) (.inl ⟨by rcases hbad with h | h; exact .inl (decide_eq_true h); exact .inr h, rfl⟩)
      generalize wP s + wC s = K at *
      clear hc1 hbad
      go_wp2_with (go_at_call 21; refine Stop.mk ?_)
      refine Stop.out (c21.mono ?_)
      rintro e W2 ⟨v, rfl, hv, hb⟩
      have HV : Hid (PErr W2 v (some ((K : Int), 100))) := hv
      have HB : Hid (Below w.heap.size w W2) := HB1.out.trans (hb.mono HB1.out.size)
      obtain ⟨q, rfl, _⟩ := hv
      clear hb c21
      go_wp2
      refine bodyPost_ret (v := .tuple #[.int .i64 0, .iface 77 (.pointer (some ⟨q, 0, none⟩))]) (by simp [results, Tryd.results10, go_sem]) rfl ⟨_, rfl, HV.out, HB.out⟩
    · have HBad : Hid (¬ (wC s < 1 ∨ wP s + wC s < s.size)) := hbad
      have c21 := end78_any W1 w.heap.size f1 s (wP s + wC s) (decide (wC s < 1)) hc1 none (.inr ⟨⟨decide_eq_false (fun h => hbad (.inl h)), fun h => hbad (.inr h)⟩, rfl⟩)
      clear hc1 hbad
      go_wp2_with (go_at_call 21; refine Stop.mk ?_)
      refine Stop.out (c21.mono ?_)
      rintro e W2 ⟨v, rfl, hv, hb⟩
      obtain rfl : v = .nilIface := hv
      have HB : Hid (Below w.heap.size w W2) := HB1.out.trans (hb.mono HB1.out.size)
      have c30 := isWhole_any W2 V
      clear hb c21
      by_cases hw : wrong V
      · obtain ⟨rfl, rfl⟩ := Prod.mk.inj (HR.out.symm.trans (WR_far h12 HBad.out (HV0.out.symm ▸ hw)))
        rw [decide_eq_false (not_not_intro hw)] at c30
        have c17 := refusal_any 0 101 W2
        go_wp2_with (go_at_call 30; refine Stop.mk ?_)
        refine Stop.out (c30.mono ?_)
        rintro e W3 ⟨rfl, rfl⟩
        go_wp2_with (go_at_call 17; refine Stop.mk ?_)
        refine Stop.out (c17.mono ?_)
        rintro e W4 ⟨v, rfl, hv, hb⟩
        have HV : Hid (PErr W4 v (some (0, 101))) := hv
        have HB4 : Hid (Below w.heap.size w W4) := HB.out.trans (hb.mono HB.out.size)
        clear hv hb c17 c30
        go_wp2
        refine bodyPost_ret (v := .tuple #[.int .i64 0, v]) (by simp [results, Tryd.results10, go_sem]) rfl ⟨v, rfl, HV.out, HB4.out⟩
      · obtain ⟨rfl, rfl⟩ := Prod.mk.inj (HR.out.symm.trans ((WR_ok h12 HBad.out (HV0.out.symm ▸ hw)).trans (by rw [HV0.out])))
        rw [decide_eq_true hw] at c30
        go_wp2_with (go_at_call 30; refine Stop.mk ?_)
        refine Stop.out (c30.mono ?_)
        rintro e W3 ⟨rfl, rfl⟩
        go_wp2
        refine bodyPost_ret (v := .tuple #[.int .i64 R1, .nilIface]) (by simp [results, Tryd.results10, go_sem]) rfl ⟨_, rfl, rfl, HB.out⟩
end Go.Proofs.YtaingbnfalibjaaDoor
