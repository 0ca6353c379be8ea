import Derived.Test.YtohojghndnfgdaaGreatDoorQTe
/-
  DERIVED. Numbers of six digits; which times may be, by the program.
-/
namespace Go.Proofs.YtohojghndnfgdaaGreatDoor.Tm
open Go Go.Proofs Go.RowKit Go.Shelf

def t5 (h mi sc mc p : Int) : Value := .agg #[.int .i64 h, .int .i64 mi, .int .i64 sc, .int .i64 mc, .int .i64 p]
theorem isDay_of {y m d : Int} (hu : uf y m d = -1) : ∃ yn mn dn : Nat, y = yn ∧ m = mn ∧ d = dn ∧ Day yn mn dn := by
  unfold uf at hu
  split at hu
  · omega
  · split at hu
    · omega
    · split at hu
      · omega
      · rename_i h1 h2 h3
        refine ⟨y.toNat, m.toNat, d.toNat, by omega, by omega, by omega, ?_⟩
        exact ⟨by omega, by omega, by omega, by omega, by omega, by omega⟩

theorem itoa6_any (w : World) (n : Nat) (hn : n ≤ 999999) (htab : Lib.TabIs Tryz.prog w "internal/strconv.uint64pow10" .u64 Lib.pow10Tab) :
    Calls Tryz.prog 62 #[.int .i64 (n : Int)] w fun e w' => e = .returned (.string ⟨(Lib.decDigits n).toArray⟩) ∧ Below w.heap.size w w' := by
  refine (Any.strconv_Itoa itoaLays (n : Int) (by omega) (by omega) w htab).mono ?_
  rintro e w' ⟨rfl, k, os, rfl⟩
  refine ⟨by rw [Lib.itoa_nonneg], ?_⟩
  exact ⟨rfl, rfl, rfl, by show _ ≤ (_ ++ _ : Array Obj).size; simp, fun j hj => by show (w.heap ++ os : Array Obj)[j]? = _; rw [Array.getElem?_append_left hj]⟩
set_option maxRecDepth 100000 in
theorem padded6_any (w : World) (n k : Nat) (hn : n < 10 ^ k) (hk : 1 ≤ k) (hk4 : k ≤ 6) (h9 : n ≤ 999999) (hp : Pow w) :
    Calls Tryz.prog 39 #[.int .i64 (n : Int), .int .i64 (k : Int)] w fun e w' => e = .returned (.string (pdB n k)) ∧ Below w.heap.size w w' := by
  have c69 := itoa6_any w n h9 hp
  obtain ⟨hl, he⟩ := pad_eq k n hn hk
  have c70 := fun W => rep6_any W (k - (Lib.decDigits n).length) (by omega)
  have HE : Hid ((⟨(Lib.repeatL [48] (k - (Lib.decDigits n).length)).toArray⟩ : ByteArray) ++ ⟨(Lib.decDigits n).toArray⟩ = pdB n k) := by
    show _ = _
    apply ByteArray.ext
    apply Array.ext'
    rw [ByteArray.data_append, Array.toList_append]
    exact he
  have hz : (⟨(Lib.decDigits n).toArray⟩ : ByteArray).size = (Lib.decDigits n).length := by show (Lib.decDigits n).toArray.size = _; rw [List.size_toArray]
  have hz2 : (⟨(Lib.repeatL [48] (k - (Lib.decDigits n).length)).toArray⟩ : ByteArray).size = k - (Lib.decDigits n).length := by
    show (Lib.repeatL [48] (k - (Lib.decDigits n).length)).toArray.size = _
    rw [List.size_toArray, Lib.repeatL_length]
    simp
  generalize pdB n k = E at *
  generalize (⟨(Lib.decDigits n).toArray⟩ : ByteArray) = D at *
  generalize (Lib.decDigits n).length = l at *
  generalize (⟨(Lib.repeatL [48] (k - l)).toArray⟩ : ByteArray) = R at *
  have hs : (k : Int) - (l : Int) = ((k - l : Nat) : Int) := by omega
  generalize k - l = r at *
  clear he hn hp
  go_enter Tryz.func39, Tryz.ntmps39
  go_wp2_with (first | (go_at_call 62; refine c69.mono ?_; rintro e W1 ⟨rfl, hb1⟩) | (go_at_call 59; refine Stop.mk ?_))
  refine Stop.out ((c70 _).mono ?_)
  rintro e W2 ⟨rfl, hb2⟩
  clear c70
  go_wp2
  go_ret
  exact ⟨by rw [← HE.out]; rfl, hb1.trans (hb2.mono hb1.size)⟩

/-- The table of ticks. -/
def tk : Nat → Int := fun k => #[(87840000000 : Int), 3660000000, 61000000, 1000000, 100000, 10000, 1000, 100, 10, 1].getD k 0
structure Ot (w : World) : Prop where
  p : ∀ i, i < 10 → w.cell? ⟨0, i, none⟩ = some (.int .i64 (tk i))
theorem Ot.on {w w' : World} (h : Ot w) (hb : Below w.heap.size w w') : Ot w' := ⟨fun i hi => (hb.cell (cell_lt (h.p i hi))).trans (h.p i hi)⟩
theorem tk_pos {p : Nat} (h1 : 1 ≤ p) (h9 : p ≤ 9) : 0 < tk p ∧ tk p ≤ 3660000000 := by
  rcases (by omega : p = 1 ∨ p = 2 ∨ p = 3 ∨ p = 4 ∨ p = 5 ∨ p = 6 ∨ p = 7 ∨ p = 8 ∨ p = 9) with rfl | rfl | rfl | rfl | rfl | rfl | rfl | rfl | rfl <;> decide

/-- The first field that may not be. -/
def tN (h m s c p : Int) : Int :=
  if h < 0 ∨ 23 < h then 0
  else if m < 0 ∨ 59 < m ∨ (1 ≤ p ∧ p ≤ 9 ∧ p < 2 ∧ m ≠ 0) then 1
  else if s < 0 ∨ 60 < s ∨ (1 ≤ p ∧ p ≤ 9 ∧ p < 3 ∧ s ≠ 0) then 2
  else if c < 0 ∨ 999999 < c ∨ (1 ≤ p ∧ p ≤ 9 ∧ c % tk p.toNat ≠ 0) then 3
  else if ¬ (1 ≤ p ∧ p ≤ 9) then 4 else -1

set_option maxRecDepth 100000 in
set_option maxHeartbeats 4000000 in
theorem unfitT_any (w : World) (h m s c p : Int) (hO : Ot w) : Calls Tryz.prog 14 #[t5 h m s c p] w fun e w' => e = .returned (.int .i64 (tN h m s c p)) ∧ Below w.heap.size w w' := by
  obtain ⟨W, hW⟩ : ∃ W, w.alloc (.cells #[.int .i64 h, .int .i64 m, .int .i64 s, .int .i64 c, .int .i64 p] 29) = W := ⟨_, rfl⟩
  have HB : Hid (Below w.heap.size w W) := hW ▸ (Below.refl _ _).alloc (Nat.le_refl _) _
  have q0 : W.cell? ⟨w.heap.size, 0, none⟩ = some (.int .i64 h) := by rw [← hW]; simp
  have q1 : W.cell? ⟨w.heap.size, 1, none⟩ = some (.int .i64 m) := by rw [← hW]; simp
  have q2 : W.cell? ⟨w.heap.size, 2, none⟩ = some (.int .i64 s) := by rw [← hW]; simp
  have q3 : W.cell? ⟨w.heap.size, 3, none⟩ = some (.int .i64 c) := by rw [← hW]; simp
  have q4 : W.cell? ⟨w.heap.size, 4, none⟩ = some (.int .i64 p) := by rw [← hW]; simp
  have HO : Hid (Ot W) := hO.on HB.out
  clear hO
  unfold t5
  obtain ⟨R, hR⟩ : ∃ R, tN h m s c p = R := ⟨_, rfl⟩
  have HR : Hid (tN h m s c p = R) := hR
  rw [hR]
  clear hR
  by_cases hp : 1 ≤ p ∧ p ≤ 9
  · obtain ⟨pn, rfl⟩ : ∃ pn : Nat, p = pn := ⟨p.toNat, by omega⟩
    have hp1 : decide ((1 : Int) ≤ (pn : Int)) = true := by simp; omega
    have hp9 : decide ((pn : Int) ≤ 9) = true := by simp; omega
    have ht : W.cell? ⟨0, pn, none⟩ = some (.int .i64 (tk pn)) := HO.out.p pn (by omega)
    have htp := tk_pos (p := pn) (by omega) (by omega)
    by_cases hc : c < 0
    · have hc0 : decide (c < 0) = true := by simpa using hc
      have HP : Hid (1 ≤ (pn : Int) ∧ (pn : Int) ≤ 9 ∧ c < 0) := ⟨hp.1, hp.2, hc⟩
      clear hc hp
      go_enter Tryz.func14, Tryz.ntmps14
      go_wp2
      all_goals first | (go_ret; refine ⟨?_, by first | exact HB.out | exact below_drewN HB.out _⟩; rw [← HR.out]; have hP := HP.out; (try simp only [bne_iff_ne] at *); (try simp only [bne_eq_false_iff_eq] at *); unfold tN; (repeat first | rw [if_pos (by omega)] | rw [if_neg (by omega)]); rfl) | (go_quiet (fail); go_wp2; all_goals (go_ret; refine ⟨?_, by first | exact HB.out | exact below_drewN HB.out _⟩; rw [← HR.out]; have hP := HP.out; (try simp only [bne_eq_false_iff_eq] at *); unfold tN; (repeat first | rw [if_pos (by omega)] | rw [if_neg (by omega)]); rfl))
    · by_cases hc9 : 999999 < c
      · have hc0 : decide (c < 0) = false := by simp; omega
        have hc1 : decide (999999 < c) = true := by simp; omega
        have HP : Hid (1 ≤ (pn : Int) ∧ (pn : Int) ≤ 9 ∧ 999999 < c) := ⟨hp.1, hp.2, hc9⟩
        clear hc hp hc9
        go_enter Tryz.func14, Tryz.ntmps14
        go_wp2
        all_goals first | (go_ret; refine ⟨?_, by first | exact HB.out | exact below_drewN HB.out _⟩; rw [← HR.out]; have hP := HP.out; (try simp only [bne_iff_ne] at *); (try simp only [bne_eq_false_iff_eq] at *); unfold tN; (repeat first | rw [if_pos (by omega)] | rw [if_neg (by omega)]); rfl) | (go_quiet (fail); go_wp2; all_goals (go_ret; refine ⟨?_, by first | exact HB.out | exact below_drewN HB.out _⟩; rw [← HR.out]; have hP := HP.out; (try simp only [bne_eq_false_iff_eq] at *); unfold tN; (repeat first | rw [if_pos (by omega)] | rw [if_neg (by omega)]); rfl))
      · obtain ⟨cn, rfl⟩ : ∃ cn : Nat, c = cn := ⟨c.toNat, by omega⟩
        have hc0 : decide ((cn : Int) < 0) = false := by simp
        have hc1 : decide (999999 < (cn : Int)) = false := by simp; omega
        obtain ⟨T, hT⟩ : ∃ T, tk pn = T := ⟨_, rfl⟩
        rw [hT] at ht htp
        have hpl : (pn : Int) < 10 := by omega
        by_cases hr : (cn : Int) % T = 0
        · have hrI : ((cn : Int) % T == 0) = true := by simpa using hr
          have hrI2 : ((cn : Int) % T != 0) = false := by simpa using hr
          have HP : Hid (1 ≤ (pn : Int) ∧ (pn : Int) ≤ 9 ∧ (cn : Int) ≤ 999999 ∧ (cn : Int) % tk ((pn : Int).toNat) = 0) := ⟨hp.1, hp.2, by omega, by rw [Int.toNat_natCast, hT]; exact hr⟩
          clear hc hp hr hT hc9
          go_enter Tryz.func14, Tryz.ntmps14
          go_wp2
          all_goals first | (go_ret; refine ⟨?_, by first | exact HB.out | exact below_drewN HB.out _⟩; rw [← HR.out]; have hP := HP.out; (try simp only [bne_iff_ne] at *); (try simp only [bne_eq_false_iff_eq] at *); unfold tN; (repeat first | rw [if_pos (by omega)] | rw [if_neg (by omega)]); rfl) | (go_quiet (fail); go_wp2; all_goals (go_ret; refine ⟨?_, by first | exact HB.out | exact below_drewN HB.out _⟩; rw [← HR.out]; have hP := HP.out; (try simp only [bne_eq_false_iff_eq] at *); unfold tN; (repeat first | rw [if_pos (by omega)] | rw [if_neg (by omega)]); rfl))
        · have hrI : ((cn : Int) % T == 0) = false := by simpa using hr
          have hrI2 : ((cn : Int) % T != 0) = true := by simpa using hr
          have HP : Hid (1 ≤ (pn : Int) ∧ (pn : Int) ≤ 9 ∧ (cn : Int) ≤ 999999 ∧ (cn : Int) % tk ((pn : Int).toNat) ≠ 0) := ⟨hp.1, hp.2, by omega, by rw [Int.toNat_natCast, hT]; exact hr⟩
          clear hc hp hr hT hc9
          go_enter Tryz.func14, Tryz.ntmps14
          go_wp2
          all_goals first | (go_ret; refine ⟨?_, by first | exact HB.out | exact below_drewN HB.out _⟩; rw [← HR.out]; have hP := HP.out; (try simp only [bne_iff_ne] at *); (try simp only [bne_eq_false_iff_eq] at *); unfold tN; (repeat first | rw [if_pos (by omega)] | rw [if_neg (by omega)]); rfl) | (go_quiet (fail); go_wp2; all_goals (go_ret; refine ⟨?_, by first | exact HB.out | exact below_drewN HB.out _⟩; rw [← HR.out]; have hP := HP.out; (try simp only [bne_eq_false_iff_eq] at *); unfold tN; (repeat first | rw [if_pos (by omega)] | rw [if_neg (by omega)]); rfl))
  · have hcs : (decide (c < 0) = true ∧ c < 0) ∨ (decide (c < 0) = false ∧ decide (999999 < c) = true ∧ 999999 < c) ∨ (decide (c < 0) = false ∧ decide (999999 < c) = false ∧ 0 ≤ c ∧ c ≤ 999999) := by
      by_cases h1 : c < 0
      · exact .inl ⟨by simpa using h1, h1⟩
      · by_cases h2 : 999999 < c
        · exact .inr (.inl ⟨by simp; omega, by simp; omega, h2⟩)
        · exact .inr (.inr ⟨by simp; omega, by simp; omega, by omega, by omega⟩)
    have hps : (decide ((1 : Int) ≤ p) = false ∧ p < 1) ∨ (decide ((1 : Int) ≤ p) = true ∧ decide (p ≤ 9) = false ∧ 9 < p) := by
      by_cases h1 : p < 1
      · exact .inl ⟨by simp; omega, h1⟩
      · exact .inr ⟨by simp; omega, by simp; omega, by omega⟩
    clear hp
    rcases hps with ⟨hp1, hp⟩ | ⟨hp1, hp2, hp⟩
    all_goals
      have HP0 : Hid _ := hp
      clear hp
      rcases hcs with ⟨hc0, hc⟩ | ⟨hc0, hc1, hc⟩ | ⟨hc0, hc1, hc⟩
      all_goals
        have HP : Hid _ := And.intro HP0.out hc
        clear hc
        go_enter Tryz.func14, Tryz.ntmps14
        go_wp2
        all_goals first | (go_ret; refine ⟨?_, by first | exact HB.out | exact below_drewN HB.out _⟩; rw [← HR.out]; have hP := HP.out;  unfold tN; (repeat first | rw [if_pos (by omega)] | rw [if_neg (by omega)]); rfl) | (go_quiet (fail); go_wp2; all_goals (go_ret; refine ⟨?_, by first | exact HB.out | exact below_drewN HB.out _⟩; rw [← HR.out]; have hP := HP.out;  unfold tN; (repeat first | rw [if_pos (by omega)] | rw [if_neg (by omega)]); rfl))
end Go.Proofs.YtohojghndnfgdaaGreatDoor.Tm
