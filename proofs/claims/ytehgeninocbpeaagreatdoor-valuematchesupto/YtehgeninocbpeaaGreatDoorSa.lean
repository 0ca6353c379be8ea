import Derived.Test.YtehgeninocbpeaaGreatDoorQRa
namespace Go.Proofs.YtehgeninocbpeaaGreatDoor.Tm
open Go Go.Proofs Go.RowKit
set_option maxRecDepth 100000 in
theorem ahead_any (w : World) (y : Nat) (h1 : 1 ≤ y) (h2 : y ≤ 10000) : Calls Tryz.prog 149 #[.int .i64 (y : Int)] w fun e w' => e = .returned (.int .i64 (dA y : Nat)) ∧ w = w' := by
  obtain ⟨z, rfl⟩ : ∃ z, y = z + 1 := ⟨y - 1, by omega⟩
  have e : ((dA (z + 1) : Nat) : Int) = 365 * (z : Int) + (z : Int) / 4 - (z : Int) / 100 + (z : Int) / 400 := by
    unfold dA
    simp only [Nat.add_sub_cancel]
    omega
  rw [e]
  clear e h1
  have hz : z ≤ 9999 := by omega
  clear h2
  go_enter Tryz.func149, Tryz.ntmps149
  go_wp2
  go_ret
  exact ⟨rfl, rfl⟩
set_option maxRecDepth 100000 in
set_option maxHeartbeats 1000000 in
theorem number_any (w : World) (y m d : Nat) (hd : Day y m d) (hT : Mt w) : Calls Tryz.prog 121 #[dv y m d] w fun e w' => e = .returned (.int .i64 (num y m d : Nat)) ∧ Below w.heap.size w w' := by
  obtain ⟨hy1, hy2, hm1, hm2, hd1, hd2⟩ := hd
  have hd31 : d ≤ 31 := Nat.le_trans hd2 (md_le y m)
  have hA := dA_le (y := y) (by omega)
  obtain ⟨W, hW⟩ : ∃ W, w.alloc (.cells #[.int .i64 (y : Int), .int .i64 (m : Int), .int .i64 (d : Int)] 118) = W := ⟨_, rfl⟩
  have HB : Hid (Below w.heap.size w W) := hW ▸ (Below.refl _ _).alloc (Nat.le_refl _) _
  have q0 : W.cell? ⟨w.heap.size, 0, none⟩ = some (.int .i64 (y : Int)) := by rw [← hW]; simp
  have q1 : W.cell? ⟨w.heap.size, 1, none⟩ = some (.int .i64 (m : Int)) := by rw [← hW]; simp
  have q2 : W.cell? ⟨w.heap.size, 2, none⟩ = some (.int .i64 (d : Int)) := by rw [← hW]; simp
  have HT : Hid (Mt W) := hT.on HB.out
  have c25 := fun n => ahead_any (W.drewN n) y hy1 (by omega)
  have c26 := fun k n => month_any (W.drewN n) y k ⟨HT.out.p⟩
  have HE : Hid (num y m d = dA y + d - 1 + cu y (m - 1)) := by show _ = _; unfold num; omega
  generalize num y m d = N at *
  generalize dA y = A at *
  clear hT hd2 hy1 hy2
  unfold dv
  go_enter Tryz.func121, Tryz.ntmps121
  go_wp2
  go_quiet (first | (go_at_call 149; exact (c25 _).mono fun _ _ h => ⟨h.1, _, h.2.symm⟩) | fail)
  go_wp2
  go_loopg [3, 4] (m - 1) (fun g s3 s4 wx => ∃ k : Nat, s4 = .int .i64 (k : Int) ∧ 1 ≤ k ∧ k ≤ m ∧ g + k = m ∧ (∃ S : Nat, s3 = .int .i64 (S : Int) ∧ S ≤ 3700000 ∧ Hid (S = A + d - 1 + cu y (k - 1))) ∧ W.drewN nq = wx)
  case atStart => exact ⟨1, rfl, by omega, by omega, by omega, ⟨A + d - 1, by congr 1; omega, by omega, rfl⟩, rfl⟩
  case round =>
    obtain ⟨k, rfl, hk1, hkm, hg, ⟨S, rfl, hS, HS⟩, rfl⟩ := hrel
    by_cases hk : k < m
    · have hkI : (k : Int) < (m : Int) := by omega
      have c := c26 k nq
      have HS2 : Hid (S + md y k = A + d - 1 + cu y (k + 1 - 1)) := by
        obtain ⟨j, rfl⟩ : ∃ j, k = j + 1 := ⟨k - 1, by omega⟩
        show _ = _
        rw [HS.out, show j + 1 + 1 - 1 = j + 1 by omega, show j + 1 - 1 = j by omega, cu]
        omega
      have hS2 : S + md y k ≤ 3700000 := by
        rw [HS2.out]
        have := cu_le y (k + 1 - 1)
        omega
      generalize md y k = L at *
      have hLS : L ≤ 3700000 := by omega
      clear c25 c26
      go_wp2_with (go_at_call 150; refine c.mono ?_; rintro e w' ⟨rfl, rfl⟩)
      go_roundg (m - (k + 1))
      case measure => omega
      case rel => exact ⟨k + 1, by simp, by omega, by omega, by omega, ⟨S + L, by simp, hS2, HS2⟩, rfl⟩
    · obtain rfl : k = m := by omega
      have hkI : ¬ ((k : Int) < (k : Int)) := by omega
      obtain rfl : S = N := HS.out.trans HE.out.symm
      go_wp2
      go_ret
      exact ⟨rfl, below_drewN HB.out _⟩
def v5 (h m s c p : Int) : Value := .agg #[.int .i64 h, .int .i64 m, .int .i64 s, .int .i64 c, .int .i64 p]
def tt (h m s c : Nat) : Nat := (60 * h + m) * 61000000 + s * 1000000 + c
set_option maxRecDepth 100000 in
theorem tick_any (w : World) (h m s c p : Nat) (h1 : h ≤ 99) (h2 : m ≤ 99) (h3 : s ≤ 99) (h4 : c ≤ 999999) : Calls Tryz.prog 122 #[v5 h m s c p] w fun e w' => e = .returned (.int .i64 (tt h m s c : Nat)) ∧ Below w.heap.size w w' := by
  unfold v5 tt
  go_enter Tryz.func122, Tryz.ntmps122
  go_wp2
  go_ret
  refine ⟨?_, ?_⟩
  · simp
  · exact (Below.refl _ _).alloc (Nat.le_refl _) _
def tk : Nat → Int := fun k => #[(87840000000 : Int), 3660000000, 61000000, 1000000, 100000, 10000, 1000, 100, 10, 1].getD k 0
structure Ot (w : World) : Prop where
  p : ∀ i, i < 10 → w.cell? ⟨2, i, none⟩ = some (.int .i64 (tk i))
theorem Ot.on {w w' : World} (h : Ot w) (hb : Below w.heap.size w w') : Ot w' := ⟨fun i hi => (hb.cell (cell_lt (h.p i hi))).trans (h.p i hi)⟩
theorem tk_pos {p : Nat} (h9 : p ≤ 9) : 0 < tk p ∧ tk p ≤ 87840000000 := by
  rcases (by omega : p = 0 ∨ p = 1 ∨ p = 2 ∨ p = 3 ∨ p = 4 ∨ p = 5 ∨ p = 6 ∨ p = 7 ∨ p = 8 ∨ p = 9) with rfl | rfl | rfl | rfl | rfl | rfl | rfl | rfl | rfl | rfl <;> decide
def dI (v : Int) : Int := (dA v.toNat : Int)
theorem aheadI_any (w : World) (v : Int) (h1 : 1 ≤ v) (h2 : v ≤ 10000) : Calls Tryz.prog 149 #[.int .i64 v] w fun e w' => e = .returned (.int .i64 (dI v)) ∧ w = w' := by
  obtain ⟨y, rfl⟩ : ∃ y : Nat, v = y := ⟨v.toNat, by omega⟩
  exact ahead_any w y (by omega) (by omega)
def oT (y m dp p : Nat) : Int := if dp = 1 then ((dA (y + 1) : Int) - (dA y : Int)) * 87840000000 else if dp = 2 then (md y m : Int) * 87840000000 else tk p
theorem oT_pos {y m dp p : Nat} (hy : 1 ≤ y) (hm1 : 1 ≤ m) (hm2 : m ≤ 12) (hp : p ≤ 9) : 0 < oT y m dp p ∧ oT y m dp p ≤ 40000000000000 := by
  have h1 := dA_step y hy
  have h2 := md_le y m
  have h3 := tk_pos hp
  have h4 : 1 ≤ md y m := by
    unfold md
    rw [if_neg (by omega)]
    split
    · omega
    · rcases (by omega : m = 1 ∨ m = 2 ∨ m = 3 ∨ m = 4 ∨ m = 5 ∨ m = 6 ∨ m = 7 ∨ m = 8 ∨ m = 9 ∨ m = 10 ∨ m = 11 ∨ m = 12) with rfl | rfl | rfl | rfl | rfl | rfl | rfl | rfl | rfl | rfl | rfl | rfl <;> decide
  unfold oT
  split
  · omega
  · split <;> omega
def mV (y m d dp h mi sc mc p : Nat) (zd : Bool) (z : Int) : Value := .agg #[.int .i64 (y : Int), .int .i64 (m : Int), .int .i64 (d : Int), .int .i64 (dp : Int), .int .i64 (h : Int), .int .i64 (mi : Int), .int .i64 (sc : Int), .int .i64 (mc : Int), .int .i64 (p : Int), .bool zd, .int .i64 z]
set_option maxRecDepth 100000 in
set_option maxHeartbeats 1000000 in
theorem ticksOf_any (w : World) (y m d dp h mi sc mc p : Nat) (zd : Bool) (z : Int) (hy : 1 ≤ y) (hy9 : y ≤ 9999) (hp1 : 1 ≤ dp) (hp3 : dp ≤ 3) (hp : p ≤ 9) (hO : Ot w) (hT : Mt w) :
    Calls Tryz.prog 123 #[mV y m d dp h mi sc mc p zd z] w fun e w' => e = .returned (.int .i64 (oT y m dp p)) ∧ Below w.heap.size w w' := by
  unfold mV
  obtain ⟨W, hW⟩ : ∃ W, w.alloc (.cells #[.int .i64 (y : Int), .int .i64 (m : Int), .int .i64 (d : Int), .int .i64 (dp : Int), .int .i64 (h : Int), .int .i64 (mi : Int), .int .i64 (sc : Int), .int .i64 (mc : Int), .int .i64 (p : Int), .bool zd, .int .i64 z] 130) = W := ⟨_, rfl⟩
  have HB : Hid (Below w.heap.size w W) := hW ▸ (Below.refl _ _).alloc (Nat.le_refl _) _
  have q0 : W.cell? ⟨w.heap.size, 0, none⟩ = some (.int .i64 (y : Int)) := by rw [← hW]; simp
  have q1 : W.cell? ⟨w.heap.size, 1, none⟩ = some (.int .i64 (m : Int)) := by rw [← hW]; simp
  have q3 : W.cell? ⟨w.heap.size, 3, none⟩ = some (.int .i64 (dp : Int)) := by rw [← hW]; simp
  have q8 : W.cell? ⟨w.heap.size, 8, none⟩ = some (.int .i64 (p : Int)) := by rw [← hW]; simp
  have qt : W.cell? ⟨2, p, none⟩ = some (.int .i64 (tk p)) := (hO.on HB.out).p p (by omega)
  have HT : Hid (Mt W) := hT.on HB.out
  have hpI : (p : Int) < 10 := by omega
  have hA1 := dA_le (y := y + 1) (by omega)
  have hA2 := dA_le (y := y) (by omega)
  have hA3 := dA_step y hy
  have hML := md_le y m
  have cA := fun n v h1 h2 => aheadI_any (W.drewN n) v h1 h2
  have cM := fun n => month_any (W.drewN n) y m ⟨HT.out.p⟩
  have cM0 := month_any W y m HT.out
  clear hO hT
  rcases (by omega : dp = 1 ∨ dp = 2 ∨ dp = 3) with rfl | rfl | rfl
  · have q3 : W.cell? ⟨w.heap.size, 3, none⟩ = some (.int .i64 1) := q3
    have hW : w.alloc (.cells #[.int .i64 (y : Int), .int .i64 (m : Int), .int .i64 (d : Int), .int .i64 1, .int .i64 (h : Int), .int .i64 (mi : Int), .int .i64 (sc : Int), .int .i64 (mc : Int), .int .i64 (p : Int), .bool zd, .int .i64 z] 130) = W := hW
    show Calls Tryz.prog 123 #[.agg #[.int .i64 (y : Int), .int .i64 (m : Int), .int .i64 (d : Int), .int .i64 1, .int .i64 (h : Int), .int .i64 (mi : Int), .int .i64 (sc : Int), .int .i64 (mc : Int), .int .i64 (p : Int), .bool zd, .int .i64 z]] w _
    unfold oT
    rw [if_pos rfl]
    have e1 : dI ((y : Int) + 1) = (dA (y + 1) : Int) := rfl
    have e0 : dI (y : Int) = (dA y : Int) := rfl
    have b1 : 0 ≤ dI ((y : Int) + 1) ∧ dI ((y : Int) + 1) ≤ 3652059 := by rw [e1]; omega
    have b0 : 0 ≤ dI (y : Int) ∧ dI (y : Int) ≤ 3652059 := by rw [e0]; omega
    have b2 : 0 ≤ dI ((y : Int) + 1) - dI (y : Int) ∧ dI ((y : Int) + 1) - dI (y : Int) ≤ 366 := by rw [e1, e0]; omega
    rw [← e1, ← e0]
    clear e1 e0 hA1 hA2 hA3
    clear qt cM cM0 q8 q1
    go_enter Tryz.func123, Tryz.ntmps123
    go_wp2
    go_quiet (first | (go_at_call 149; refine (cA _ _ ?_ ?_).mono fun _ _ h => ⟨h.1, _, h.2.symm⟩; (focus omega); (focus omega)) | fail)
    go_wp2
    go_ret
    exact ⟨rfl, below_drewN HB.out _⟩
  · have q3 : W.cell? ⟨w.heap.size, 3, none⟩ = some (.int .i64 2) := q3
    have hW : w.alloc (.cells #[.int .i64 (y : Int), .int .i64 (m : Int), .int .i64 (d : Int), .int .i64 2, .int .i64 (h : Int), .int .i64 (mi : Int), .int .i64 (sc : Int), .int .i64 (mc : Int), .int .i64 (p : Int), .bool zd, .int .i64 z] 130) = W := hW
    show Calls Tryz.prog 123 #[.agg #[.int .i64 (y : Int), .int .i64 (m : Int), .int .i64 (d : Int), .int .i64 2, .int .i64 (h : Int), .int .i64 (mi : Int), .int .i64 (sc : Int), .int .i64 (mc : Int), .int .i64 (p : Int), .bool zd, .int .i64 z]] w _
    unfold oT
    rw [if_neg (by omega), if_pos rfl]
    generalize md y m = L at *
    clear qt cA q8 hA1 hA2 hA3
    go_enter Tryz.func123, Tryz.ntmps123
    go_wp2_with (go_at_call 150; refine cM0.mono ?_; rintro e w' ⟨rfl, rfl⟩)
    go_ret
    exact ⟨rfl, HB.out⟩
  · have q3 : W.cell? ⟨w.heap.size, 3, none⟩ = some (.int .i64 3) := q3
    have hW : w.alloc (.cells #[.int .i64 (y : Int), .int .i64 (m : Int), .int .i64 (d : Int), .int .i64 3, .int .i64 (h : Int), .int .i64 (mi : Int), .int .i64 (sc : Int), .int .i64 (mc : Int), .int .i64 (p : Int), .bool zd, .int .i64 z] 130) = W := hW
    show Calls Tryz.prog 123 #[.agg #[.int .i64 (y : Int), .int .i64 (m : Int), .int .i64 (d : Int), .int .i64 3, .int .i64 (h : Int), .int .i64 (mi : Int), .int .i64 (sc : Int), .int .i64 (mc : Int), .int .i64 (p : Int), .bool zd, .int .i64 z]] w _
    unfold oT
    rw [if_neg (by omega), if_neg (by omega)]
    clear cA cM cM0 q0 q1
    go_enter Tryz.func123, Tryz.ntmps123
    go_wp2
    go_ret
    exact ⟨rfl, HB.out⟩
end Go.Proofs.YtehgeninocbpeaaGreatDoor.Tm
