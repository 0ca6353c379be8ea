import Derived.Test.YtggdlagopgpnhaaDoorVb
/-
  DERIVED. Which times may be, by the document.
-/
namespace Go.Proofs.YtggdlagopgpnhaaDoor
open Go Go.Proofs Go.RowKit

set_option maxRecDepth 100000 in
theorem grain_any (w : World) (p : Nat) (h4 : 4 ≤ p) (h9 : p ≤ 9) : Calls Tryd.prog 67 #[.int .i64 (p : Int)] w fun e w' => e = .returned (.int .i64 (tk p)) ∧ w = w' := by
  have HT : Hid ((tk p : Int) = ((10 ^ (9 - p) : Nat) : Int)) := by
    show _ = _
    rcases (by omega : p = 4 ∨ p = 5 ∨ p = 6 ∨ p = 7 ∨ p = 8 ∨ p = 9) with rfl | rfl | rfl | rfl | rfl | rfl <;> decide
  generalize tk p = T at *
  go_enter Tryd.func67, Tryd.ntmps67
  go_wp2
  go_loopg [3, 4] (p - 3) (fun g s3 s4 wx => ∃ k G : Nat, s3 = .int .i64 (G : Int) ∧ s4 = .int .i64 (k : Int) ∧ g + k = p ∧ G ≤ 1000000 ∧ Hid (3 ≤ k ∧ G = 10 ^ (9 - k)) ∧ w = wx)
  case atStart => exact ⟨3, 1000000, rfl, rfl, by omega, by omega, ⟨by omega, rfl⟩, rfl⟩
  case round =>
    obtain ⟨k, G, rfl, rfl, hg, hG, HK, rfl⟩ := hrel
    by_cases hk : k < p
    · have hkI : decide ((k : Int) < (p : Int)) = true := by simp; omega
      obtain ⟨G2, hG2⟩ : ∃ G2, G / 10 = G2 := ⟨_, rfl⟩
      have hGI : (G : Int) / 10 = (G2 : Int) := by omega
      have HK2 : Hid (3 ≤ k + 1 ∧ G2 = 10 ^ (9 - (k + 1))) := by
        have := HK.out
        refine ⟨by omega, ?_⟩
        rw [← hG2, this.2, show 9 - k = (9 - (k + 1)) + 1 by omega, Nat.pow_succ]
        omega
      clear hG2 HK
      go_wp2
      go_roundg (p - (k + 1))
      case measure => omega
      case rel => exact ⟨k + 1, G2, by first | rfl | simp, by first | rfl | simp, by omega, by omega, HK2, rfl⟩
    · have hkI : decide ((k : Int) < (p : Int)) = false := by simp; omega
      have hE : (G : Int) = T := by
        rw [HT.out, HK.out.2, show k = p by omega]
      subst hE
      clear HK
      go_wp2
      go_ret
      exact ⟨rfl, rfl⟩

set_option maxRecDepth 100000 in
set_option maxHeartbeats 4000000 in
theorem timeNo_any (w : World) (h m s c p : Int) : Calls Tryd.prog 45 #[t5 h m s c p] w fun e w' => e = .returned (.int .i64 (tN h m s c p)) ∧ Below w.heap.size w w' := by
  obtain ⟨W, hW⟩ : ∃ W, w.alloc (.cells #[.int .i64 h, .int .i64 m, .int .i64 s, .int .i64 c, .int .i64 p] 48) = W := ⟨_, rfl⟩
  have HB : Hid (Below w.heap.size w W) := hW ▸ (Below.refl _ _).alloc (Nat.le_refl _) _
  have q0 : W.cell? ⟨w.heap.size, 0, none⟩ = some (.int .i64 h) := by rw [← hW]; simp
  have q1 : W.cell? ⟨w.heap.size, 1, none⟩ = some (.int .i64 m) := by rw [← hW]; simp
  have q2 : W.cell? ⟨w.heap.size, 2, none⟩ = some (.int .i64 s) := by rw [← hW]; simp
  have q3 : W.cell? ⟨w.heap.size, 3, none⟩ = some (.int .i64 c) := by rw [← hW]; simp
  have q4 : W.cell? ⟨w.heap.size, 4, none⟩ = some (.int .i64 p) := by rw [← hW]; simp
  unfold t5
  obtain ⟨R, hR⟩ : ∃ R, tN h m s c p = R := ⟨_, rfl⟩
  have HR : Hid (tN h m s c p = R) := hR
  rw [hR]
  clear hR
  have hcs : (decide (c < 0) = true ∧ c < 0) ∨ (decide (c < 0) = false ∧ decide (999999 < c) = true ∧ 999999 < c) ∨ (decide (c < 0) = false ∧ decide (999999 < c) = false ∧ 0 ≤ c ∧ c ≤ 999999) := by
    by_cases h1 : c < 0
    · exact .inl ⟨by simpa using h1, h1⟩
    · by_cases h2 : 999999 < c
      · exact .inr (.inl ⟨by simp; omega, by simp; omega, h2⟩)
      · exact .inr (.inr ⟨by simp; omega, by simp; omega, by omega, by omega⟩)
  by_cases hp : 1 ≤ p ∧ p ≤ 9
  · obtain ⟨pn, rfl⟩ : ∃ pn : Nat, p = pn := ⟨p.toNat, by omega⟩
    have hp1 : decide ((1 : Int) ≤ (pn : Int)) = true := by simp; omega
    have hp9 : decide ((pn : Int) ≤ 9) = true := by simp; omega
    have htp := tk_pos (p := pn) (by omega) (by omega)
    by_cases h4 : 4 ≤ pn
    · have h4I : decide ((pn : Int) < 4) = false := by simp; omega
      have h4J : decide ((4 : Int) ≤ (pn : Int)) = true := by simp; omega
      have h2I : decide ((pn : Int) < 2) = false := by simp; omega
      have h3I : decide ((pn : Int) < 3) = false := by simp; omega
      have c67 := fun W' => grain_any W' pn h4 (by omega)
      rcases hcs with ⟨hc0, hc⟩ | ⟨hc0, hc1, hc⟩ | ⟨hc0, hc1, hc⟩
      · have HP : Hid (1 ≤ (pn : Int) ∧ (pn : Int) ≤ 9 ∧ 4 ≤ (pn : Int) ∧ c < 0) := ⟨hp.1, hp.2, by omega, hc⟩
        clear hc hp h4
        go_enter Tryd.func45, Tryd.ntmps45
        go_wp2
        all_goals first | (go_ret; refine ⟨?_, by first | exact HB.out | exact below_drewN HB.out _⟩; rw [← HR.out]; have hP := HP.out;  unfold tN; (repeat first | rw [if_pos (by omega)] | rw [if_neg (by omega)]); rfl) | (go_quiet (first | (go_at_call 67; exact (c67 _).mono fun _ _ h => ⟨h.1, _, h.2.symm⟩) | fail); go_wp2; all_goals (go_ret; refine ⟨?_, by first | exact HB.out | exact below_drewN HB.out _⟩; rw [← HR.out]; have hP := HP.out;  unfold tN; (repeat first | rw [if_pos (by omega)] | rw [if_neg (by omega)]); rfl))
      · have HP : Hid (1 ≤ (pn : Int) ∧ (pn : Int) ≤ 9 ∧ 4 ≤ (pn : Int) ∧ 999999 < c) := ⟨hp.1, hp.2, by omega, hc⟩
        clear hc hp h4
        go_enter Tryd.func45, Tryd.ntmps45
        go_wp2
        all_goals first | (go_ret; refine ⟨?_, by first | exact HB.out | exact below_drewN HB.out _⟩; rw [← HR.out]; have hP := HP.out;  unfold tN; (repeat first | rw [if_pos (by omega)] | rw [if_neg (by omega)]); rfl) | (go_quiet (first | (go_at_call 67; exact (c67 _).mono fun _ _ h => ⟨h.1, _, h.2.symm⟩) | fail); go_wp2; all_goals (go_ret; refine ⟨?_, by first | exact HB.out | exact below_drewN HB.out _⟩; rw [← HR.out]; have hP := HP.out;  unfold tN; (repeat first | rw [if_pos (by omega)] | rw [if_neg (by omega)]); rfl))
      · obtain ⟨cn, rfl⟩ : ∃ cn : Nat, c = cn := ⟨c.toNat, by omega⟩
        obtain ⟨T, hT⟩ : ∃ T, tk pn = T := ⟨_, rfl⟩
        rw [hT] at c67 htp
        by_cases hr : (cn : Int) % T = 0
        · have hrI : ((cn : Int) % T == 0) = true := by simpa using hr
          have hrI2 : ((cn : Int) % T != 0) = false := by simpa using hr
          have HP : Hid (1 ≤ (pn : Int) ∧ (pn : Int) ≤ 9 ∧ 4 ≤ (pn : Int) ∧ 0 ≤ (cn : Int) ∧ (cn : Int) ≤ 999999 ∧ (cn : Int) % tk ((pn : Int).toNat) = 0) := ⟨hp.1, hp.2, by omega, hc.1, hc.2, by rw [Int.toNat_natCast, hT]; exact hr⟩
          clear hc hp hr hT h4
          go_enter Tryd.func45, Tryd.ntmps45
          go_wp2
          all_goals first | (go_ret; refine ⟨?_, by first | exact HB.out | exact below_drewN HB.out _⟩; rw [← HR.out]; have hP := HP.out;  unfold tN; (repeat first | rw [if_pos (by omega)] | rw [if_neg (by omega)]); rfl) | (go_quiet (first | (go_at_call 67; exact (c67 _).mono fun _ _ h => ⟨h.1, _, h.2.symm⟩) | fail); go_wp2; all_goals (go_ret; refine ⟨?_, by first | exact HB.out | exact below_drewN HB.out _⟩; rw [← HR.out]; have hP := HP.out;  unfold tN; (repeat first | rw [if_pos (by omega)] | rw [if_neg (by omega)]); rfl))
        · have hrI : ((cn : Int) % T == 0) = false := by simpa using hr
          have hrI2 : ((cn : Int) % T != 0) = true := by simpa using hr
          have HP : Hid (1 ≤ (pn : Int) ∧ (pn : Int) ≤ 9 ∧ 4 ≤ (pn : Int) ∧ 0 ≤ (cn : Int) ∧ (cn : Int) ≤ 999999 ∧ (cn : Int) % tk ((pn : Int).toNat) ≠ 0) := ⟨hp.1, hp.2, by omega, hc.1, hc.2, by rw [Int.toNat_natCast, hT]; exact hr⟩
          clear hc hp hr hT h4
          go_enter Tryd.func45, Tryd.ntmps45
          go_wp2
          all_goals first | (go_ret; refine ⟨?_, by first | exact HB.out | exact below_drewN HB.out _⟩; rw [← HR.out]; have hP := HP.out;  unfold tN; (repeat first | rw [if_pos (by omega)] | rw [if_neg (by omega)]); rfl) | (go_quiet (first | (go_at_call 67; exact (c67 _).mono fun _ _ h => ⟨h.1, _, h.2.symm⟩) | fail); go_wp2; all_goals (go_ret; refine ⟨?_, by first | exact HB.out | exact below_drewN HB.out _⟩; rw [← HR.out]; have hP := HP.out;  unfold tN; (repeat first | rw [if_pos (by omega)] | rw [if_neg (by omega)]); rfl))
    · have h4I : decide ((pn : Int) < 4) = true := by simp; omega
      have h4J : decide ((4 : Int) ≤ (pn : Int)) = false := by simp; omega
      have c67 := fun W' => grain_any W' 4 (by omega) (by omega)
      have hbig : 1000000 ≤ tk pn := by
        rcases (by omega : pn = 1 ∨ pn = 2 ∨ pn = 3) with rfl | rfl | rfl <;> decide
      have hrr : (0 ≤ c ∧ c ≤ 999999) → (c % tk ((pn : Int).toNat) = 0 ↔ c = 0) := fun h => by
        rw [Int.toNat_natCast, Int.emod_eq_of_lt h.1 (by omega)]
      rcases hcs with ⟨hc0, hc⟩ | ⟨hc0, hc1, hc⟩ | ⟨hc0, hc1, hc⟩
      · have HP : Hid (1 ≤ (pn : Int) ∧ (pn : Int) ≤ 9 ∧ (pn : Int) < 4 ∧ c < 0) := ⟨hp.1, hp.2, by omega, hc⟩
        clear hc hp h4 hrr
        go_enter Tryd.func45, Tryd.ntmps45
        go_wp2
        all_goals first | (go_ret; refine ⟨?_, by first | exact HB.out | exact below_drewN HB.out _⟩; rw [← HR.out]; have hP := HP.out; (try simp only [bne_iff_ne] at *); (try simp only [bne_eq_false_iff_eq] at *); unfold tN; (repeat first | rw [if_pos (by omega)] | rw [if_neg (by omega)]); rfl) | (go_quiet (first | (go_at_call 67; exact (c67 _).mono fun _ _ h => ⟨h.1, _, h.2.symm⟩) | fail); go_wp2; all_goals (go_ret; refine ⟨?_, by first | exact HB.out | exact below_drewN HB.out _⟩; rw [← HR.out]; have hP := HP.out; (try simp only [bne_eq_false_iff_eq] at *); unfold tN; (repeat first | rw [if_pos (by omega)] | rw [if_neg (by omega)]); rfl))
      · have HP : Hid (1 ≤ (pn : Int) ∧ (pn : Int) ≤ 9 ∧ (pn : Int) < 4 ∧ 999999 < c) := ⟨hp.1, hp.2, by omega, hc⟩
        clear hc hp h4 hrr
        go_enter Tryd.func45, Tryd.ntmps45
        go_wp2
        all_goals first | (go_ret; refine ⟨?_, by first | exact HB.out | exact below_drewN HB.out _⟩; rw [← HR.out]; have hP := HP.out; (try simp only [bne_iff_ne] at *); (try simp only [bne_eq_false_iff_eq] at *); unfold tN; (repeat first | rw [if_pos (by omega)] | rw [if_neg (by omega)]); rfl) | (go_quiet (first | (go_at_call 67; exact (c67 _).mono fun _ _ h => ⟨h.1, _, h.2.symm⟩) | fail); go_wp2; all_goals (go_ret; refine ⟨?_, by first | exact HB.out | exact below_drewN HB.out _⟩; rw [← HR.out]; have hP := HP.out; (try simp only [bne_eq_false_iff_eq] at *); unfold tN; (repeat first | rw [if_pos (by omega)] | rw [if_neg (by omega)]); rfl))
      · by_cases hz : c = 0
        · have hzI : (c != 0) = false := by simpa using hz
          have HP : Hid (1 ≤ (pn : Int) ∧ (pn : Int) ≤ 9 ∧ (pn : Int) < 4 ∧ 0 ≤ c ∧ c ≤ 999999 ∧ c % tk ((pn : Int).toNat) = 0) := ⟨hp.1, hp.2, by omega, hc.1, hc.2, (hrr hc).2 hz⟩
          clear hc hp h4 hrr hz
          go_enter Tryd.func45, Tryd.ntmps45
          go_wp2
          all_goals first | (go_ret; refine ⟨?_, by first | exact HB.out | exact below_drewN HB.out _⟩; rw [← HR.out]; have hP := HP.out; (try simp only [bne_iff_ne] at *); (try simp only [bne_eq_false_iff_eq] at *); unfold tN; (repeat first | rw [if_pos (by omega)] | rw [if_neg (by omega)]); rfl) | (go_quiet (first | (go_at_call 67; exact (c67 _).mono fun _ _ h => ⟨h.1, _, h.2.symm⟩) | fail); go_wp2; all_goals (go_ret; refine ⟨?_, by first | exact HB.out | exact below_drewN HB.out _⟩; rw [← HR.out]; have hP := HP.out; (try simp only [bne_eq_false_iff_eq] at *); unfold tN; (repeat first | rw [if_pos (by omega)] | rw [if_neg (by omega)]); rfl))
        · have hzI : (c != 0) = true := by simpa using hz
          have HP : Hid (1 ≤ (pn : Int) ∧ (pn : Int) ≤ 9 ∧ (pn : Int) < 4 ∧ 0 ≤ c ∧ c ≤ 999999 ∧ c % tk ((pn : Int).toNat) ≠ 0) := ⟨hp.1, hp.2, by omega, hc.1, hc.2, fun h => hz ((hrr hc).1 h)⟩
          clear hc hp h4 hrr hz
          go_enter Tryd.func45, Tryd.ntmps45
          go_wp2
          all_goals first | (go_ret; refine ⟨?_, by first | exact HB.out | exact below_drewN HB.out _⟩; rw [← HR.out]; have hP := HP.out; (try simp only [bne_iff_ne] at *); (try simp only [bne_eq_false_iff_eq] at *); unfold tN; (repeat first | rw [if_pos (by omega)] | rw [if_neg (by omega)]); rfl) | (go_quiet (first | (go_at_call 67; exact (c67 _).mono fun _ _ h => ⟨h.1, _, h.2.symm⟩) | fail); go_wp2; all_goals (go_ret; refine ⟨?_, by first | exact HB.out | exact below_drewN HB.out _⟩; rw [← HR.out]; have hP := HP.out; (try simp only [bne_eq_false_iff_eq] at *); unfold tN; (repeat first | rw [if_pos (by omega)] | rw [if_neg (by omega)]); rfl))
  · have hps : (decide ((1 : Int) ≤ p) = false ∧ p < 1) ∨ (decide ((1 : Int) ≤ p) = true ∧ decide (p ≤ 9) = false ∧ 9 < p) := by
      by_cases h1 : p < 1
      · exact .inl ⟨by simp; omega, h1⟩
      · exact .inr ⟨by simp; omega, by simp; omega, by omega⟩
    have c67 := fun W' => grain_any W' 4 (by omega) (by omega)
    clear hp
    rcases hps with ⟨hp1, hp⟩ | ⟨hp1, hp2, hp⟩
    all_goals
      have HP0 : Hid _ := hp
      clear hp
      rcases hcs with ⟨hc0, hc⟩ | ⟨hc0, hc1, hc⟩ | ⟨hc0, hc1, hc⟩
      all_goals
        have HP : Hid _ := And.intro HP0.out hc
        clear hc
        go_enter Tryd.func45, Tryd.ntmps45
        go_wp2
        all_goals first | (go_ret; refine ⟨?_, by first | exact HB.out | exact below_drewN HB.out _⟩; rw [← HR.out]; have hP := HP.out;  unfold tN; (repeat first | rw [if_pos (by omega)] | rw [if_neg (by omega)]); rfl) | (go_quiet (first | (go_at_call 67; exact (c67 _).mono fun _ _ h => ⟨h.1, _, h.2.symm⟩) | fail); go_wp2; all_goals (go_ret; refine ⟨?_, by first | exact HB.out | exact below_drewN HB.out _⟩; rw [← HR.out]; have hP := HP.out;  unfold tN; (repeat first | rw [if_pos (by omega)] | rw [if_neg (by omega)]); rfl))
end Go.Proofs.YtggdlagopgpnhaaDoor
