import Derived.Test.YtggdlagopgpnhaaDoorB
import Derived.Deep.OwnRows
/-
  DERIVED. The number of a day.
-/
namespace Go.Proofs.YtggdlagopgpnhaaDoor
open Go Go.Proofs Go.RowKit

/-- The days of so many months. -/
def cu (y : Nat) : Nat → Nat
  | 0 => 0
  | k + 1 => cu y k + md y (k + 1)
theorem md_le (y m : Nat) : md y m ≤ 31 := by
  unfold md
  split
  · omega
  · split
    · omega
    · unfold mL
      rename_i h _
      have : m - 1 < 12 := by omega
      generalize m - 1 = k at *
      rcases (by omega : k = 0 ∨ k = 1 ∨ k = 2 ∨ k = 3 ∨ k = 4 ∨ k = 5 ∨ k = 6 ∨ k = 7 ∨ k = 8 ∨ k = 9 ∨ k = 10 ∨ k = 11) with rfl | rfl | rfl | rfl | rfl | rfl | rfl | rfl | rfl | rfl | rfl | rfl <;> decide
theorem cu_le (y : Nat) : ∀ k, cu y k ≤ 31 * k
  | 0 => by simp [cu]
  | k + 1 => by have := cu_le y k; have := md_le y (k + 1); rw [cu]; omega

/-- A day that is one. -/
def Day (y m d : Nat) : Prop := 1 ≤ y ∧ y ≤ 9999 ∧ 1 ≤ m ∧ m ≤ 12 ∧ 1 ≤ d ∧ d ≤ md y m
def num (y m d : Nat) : Nat := dA y + cu y (m - 1) + d - 1
theorem dA_le {y : Nat} (h : y ≤ 10000) : dA y ≤ 3652059 := by unfold dA; omega

set_option maxRecDepth 100000 in
set_option maxHeartbeats 1000000 in
theorem number_any (w : World) (y m d : Nat) (hd : Day y m d) (hT : Mt w) : Calls Tryd.prog 28 #[dv y m d] w fun e w' => e = .returned (.int .i64 (num y m d : Nat)) ∧ Below w.heap.size w w' := by
  obtain ⟨hy1, hy2, hm1, hm2, hd1, hd2⟩ := hd
  have hd31 : d ≤ 31 := Nat.le_trans hd2 (md_le y m)
  have hA := dA_le (y := y) (by omega)
  obtain ⟨W, hW⟩ : ∃ W, w.alloc (.cells #[.int .i64 (y : Int), .int .i64 (m : Int), .int .i64 (d : Int)] 23) = W := ⟨_, rfl⟩
  have HB : Hid (Below w.heap.size w W) := hW ▸ (Below.refl _ _).alloc (Nat.le_refl _) _
  have q0 : W.cell? ⟨w.heap.size, 0, none⟩ = some (.int .i64 (y : Int)) := by rw [← hW]; simp
  have q1 : W.cell? ⟨w.heap.size, 1, none⟩ = some (.int .i64 (m : Int)) := by rw [← hW]; simp
  have q2 : W.cell? ⟨w.heap.size, 2, none⟩ = some (.int .i64 (d : Int)) := by rw [← hW]; simp
  have HT : Hid (Mt W) := hT.on HB.out
  have c25 := fun n => ahead_any (W.drewN n) y hy1 (by omega)
  have c26 := fun k n => month_any (W.drewN n) y k ⟨HT.out.p⟩
  have HE : Hid (num y m d = dA y + d - 1 + cu y (m - 1)) := by show _ = _; unfold num; omega
  generalize num y m d = N at *
  generalize dA y = A at *
  clear hT hd2 hy1 hy2
  unfold dv
  go_enter Tryd.func28, Tryd.ntmps28
  go_wp2
  go_quiet (first | (go_at_call 25; exact (c25 _).mono fun _ _ h => ⟨h.1, _, h.2.symm⟩) | fail)
  go_wp2
  go_loopg [3, 4] (m - 1) (fun g s3 s4 wx => ∃ k : Nat, s4 = .int .i64 (k : Int) ∧ 1 ≤ k ∧ k ≤ m ∧ g + k = m ∧ (∃ S : Nat, s3 = .int .i64 (S : Int) ∧ S ≤ 3700000 ∧ Hid (S = A + d - 1 + cu y (k - 1))) ∧ W.drewN nq = wx)
  case atStart => exact ⟨1, rfl, by omega, by omega, by omega, ⟨A + d - 1, by congr 1; omega, by omega, rfl⟩, rfl⟩
  case round =>
    obtain ⟨k, rfl, hk1, hkm, hg, ⟨S, rfl, hS, HS⟩, rfl⟩ := hrel
    by_cases hk : k < m
    · have hkI : (k : Int) < (m : Int) := by omega
      have c := c26 k nq
      have HS2 : Hid (S + md y k = A + d - 1 + cu y (k + 1 - 1)) := by
        obtain ⟨j, rfl⟩ : ∃ j, k = j + 1 := ⟨k - 1, by omega⟩
        show _ = _
        rw [HS.out, show j + 1 + 1 - 1 = j + 1 by omega, show j + 1 - 1 = j by omega, cu]
        omega
      have hS2 : S + md y k ≤ 3700000 := by
        rw [HS2.out]
        have := cu_le y (k + 1 - 1)
        omega
      generalize md y k = L at *
      have hLS : L ≤ 3700000 := by omega
      clear c25 c26
      go_wp2_with (go_at_call 26; refine c.mono ?_; rintro e w' ⟨rfl, rfl⟩)
      go_roundg (m - (k + 1))
      case measure => omega
      case rel => exact ⟨k + 1, by simp, by omega, by omega, by omega, ⟨S + L, by simp, hS2, HS2⟩, rfl⟩
    · obtain rfl : k = m := by omega
      have hkI : ¬ ((k : Int) < (k : Int)) := by omega
      obtain rfl : S = N := HS.out.trans HE.out.symm
      go_wp2
      go_ret
      exact ⟨rfl, below_drewN HB.out _⟩

set_option maxRecDepth 100000 in
set_option maxHeartbeats 1000000 in
/-- The number of a day, or why there is none. -/
theorem dnum_any (w : World) (y m d : Int) (hT : Mt w) : Calls Tryd.prog 7 #[dv y m d] w fun e w' => ∃ v, e = .returned (.tuple #[.int .i64 (if uf y m d = -1 then (num y.toNat m.toNat d.toNat : Int) else 0), v]) ∧ PErr w' v (if uf y m d = -1 then none else some (uf y m d, 102)) ∧ Below w.heap.size w w' := by
  obtain ⟨W, hW⟩ : ∃ W, w.alloc (.cells #[.int .i64 y, .int .i64 m, .int .i64 d] 23) = W := ⟨_, rfl⟩
  have HB : Hid (Below w.heap.size w W) := hW ▸ (Below.refl _ _).alloc (Nat.le_refl _) _
  have hs1 : w.heap.size < W.heap.size := by rw [← hW]; simp
  have q0 : W.cell? ⟨w.heap.size, 0, none⟩ = some (.int .i64 y) := by rw [← hW]; simp
  have q1 : W.cell? ⟨w.heap.size, 1, none⟩ = some (.int .i64 m) := by rw [← hW]; simp
  have q2 : W.cell? ⟨w.heap.size, 2, none⟩ = some (.int .i64 d) := by rw [← hW]; simp
  have HT : Hid (Mt W) := hT.on HB.out
  have c27 := unfit_any W y m d HT.out
  by_cases hu : uf y m d = -1
  · rw [if_pos hu, if_pos hu]
    have hD : ∃ yn mn dn : Nat, y = yn ∧ m = mn ∧ d = dn ∧ Day yn mn dn := by
      unfold uf at hu
      split at hu
      · omega
      · split at hu
        · omega
        · split at hu
          · omega
          · rename_i h1 h2 h3
            refine ⟨y.toNat, m.toNat, d.toNat, by omega, by omega, by omega, ?_⟩
            exact ⟨by omega, by omega, by omega, by omega, by omega, by omega⟩
    obtain ⟨yn, mn, dn, rfl, rfl, rfl, hday⟩ := hD
    have c28 := fun W' h => number_any W' yn mn dn hday h
    rw [hu] at c27
    rw [Int.toNat_natCast, Int.toNat_natCast, Int.toNat_natCast]
    generalize num yn mn dn = N at *
    clear hu hT hday
    unfold dv at *
    go_enter Tryd.func7, Tryd.ntmps7
    go_wp2_with (go_at_call 27; refine Stop.mk ?_)
    refine Stop.out (c27.mono ?_)
    rintro e W2 ⟨rfl, hb2⟩
    have b0 := (hb2.cell (p := ⟨w.heap.size, 0, none⟩) hs1).trans q0
    have b1 := (hb2.cell (p := ⟨w.heap.size, 1, none⟩) hs1).trans q1
    have b2 := (hb2.cell (p := ⟨w.heap.size, 2, none⟩) hs1).trans q2
    have c := c28 W2 (HT.out.on hb2)
    have HB2 : Hid (Below w.heap.size w W2) := HB.out.trans (hb2.mono HB.out.size)
    clear c27 c28 q0 q1 q2 hb2
    go_wp2_with (go_at_call 28; refine Stop.mk ?_)
    refine Stop.out (c.mono ?_)
    rintro e W3 ⟨rfl, hb3⟩
    have HB3 : Hid (Below w.heap.size w W3) := HB2.out.trans (hb3.mono HB2.out.size)
    clear hb3 c
    go_wp2
    exact bodyPost_ret (v := .tuple #[.int .i64 (N : Int), .nilIface]) (by simp [results, Tryd.results7, go_sem]) rfl ⟨_, rfl, rfl, HB3.out⟩
  · rw [if_neg hu, if_neg hu]
    have hu' : (uf y m d == -1) = false := by simpa using hu
    have hu'' : ¬ uf y m d = -1 := hu
    have c24 := fun W' => refusal_any (uf y m d) 102 W'
    generalize uf y m d = u at *
    clear hT
    unfold dv at *
    go_enter Tryd.func7, Tryd.ntmps7
    go_wp2_with (go_at_call 27; refine Stop.mk ?_)
    refine Stop.out (c27.mono ?_)
    rintro e W2 ⟨rfl, hb2⟩
    have HB2 : Hid (Below w.heap.size w W2) := HB.out.trans (hb2.mono HB.out.size)
    clear c27 q0 q1 q2 hb2
    go_wp2_with (go_at_call 24; refine Stop.mk ?_)
    refine Stop.out ((c24 _).mono ?_)
    rintro e W3 ⟨v, rfl, hv, hb3⟩
    have HB3 : Hid (Below w.heap.size w W3) := HB2.out.trans (hb3.mono HB2.out.size)
    have HV : Hid (PErr W3 v (some (u, 102))) := hv
    clear hb3 c24 hv
    go_wp2
    exact bodyPost_ret (v := .tuple #[.int .i64 0, v]) (by simp [results, Tryd.results7, go_sem]) rfl ⟨v, rfl, HV.out, HB3.out⟩
end Go.Proofs.YtggdlagopgpnhaaDoor
