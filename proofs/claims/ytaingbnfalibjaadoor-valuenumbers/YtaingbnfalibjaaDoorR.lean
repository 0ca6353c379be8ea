import Derived.Test.YtaingbnfalibjaaDoorQ
import Derived.Deep.RegionWith
import Derived.Deep.Cut
/-
  DERIVED. Two numbers compared.
-/
namespace Go.Proofs.YtaingbnfalibjaaDoor
open Go Go.Proofs Go.RowKit NumLine

/-- Two numbers in memory. -/
structure Two (W : World) (B : Nat) (n1 : Bool) (d1 : Nat) (x1 : Int) (n2 : Bool) (d2 : Nat) (x2 : Int) : Prop where
  a0 : W.cell? ⟨B, 0, none⟩ = some (.bool n1)
  a1 : W.cell? ⟨B, 1, none⟩ = some (.int .u64 (d1 : Int))
  a2 : W.cell? ⟨B, 2, none⟩ = some (.int .i64 x1)
  b0 : W.cell? ⟨B + 1, 0, none⟩ = some (.bool n2)
  b1 : W.cell? ⟨B + 1, 1, none⟩ = some (.int .u64 (d2 : Int))
  b2 : W.cell? ⟨B + 1, 2, none⟩ = some (.int .i64 x2)
theorem Two.on {W W' : World} {B : Nat} {n1 : Bool} {d1 : Nat} {x1 : Int} {n2 : Bool} {d2 : Nat} {x2 : Int} (h : Two W B n1 d1 x1 n2 d2 x2) (hb : Below (B + 2) W W') : Two W' B n1 d1 x1 n2 d2 x2 :=
  ⟨(hb.cell (p := ⟨B, 0, none⟩) (by show B < _; omega)).trans h.a0, (hb.cell (p := ⟨B, 1, none⟩) (by show B < _; omega)).trans h.a1, (hb.cell (p := ⟨B, 2, none⟩) (by show B < _; omega)).trans h.a2, (hb.cell (p := ⟨B + 1, 0, none⟩) (by show B + 1 < _; omega)).trans h.b0, (hb.cell (p := ⟨B + 1, 1, none⟩) (by show B + 1 < _; omega)).trans h.b1, (hb.cell (p := ⟨B + 1, 2, none⟩) (by show B + 1 < _; omega)).trans h.b2⟩
theorem Two.start (w : World) (n1 : Bool) (d1 : Nat) (x1 : Int) (n2 : Bool) (d2 : Nat) (x2 : Int) : Two ((w.alloc (.cells #[.bool n1, .int .u64 (d1 : Int), .int .i64 x1] 24)).alloc (.cells #[.bool n2, .int .u64 (d2 : Int), .int .i64 x2] 24)) w.heap.size n1 d1 x1 n2 d2 x2 :=
  ⟨by simp [go_sem], by simp [go_sem], by simp [go_sem], by simp [go_sem], by simp [go_sem], by simp [go_sem]⟩

set_option maxRecDepth 100000 in
set_option maxHeartbeats 4000000 in
theorem compare_any (w : World) (a b : Nm) (ha : a.d < 18446744073709551616) (hb : b.d < 18446744073709551616)
    (he1 : -9223372036854775808 ≤ a.e) (he2 : a.e ≤ 9223372036854775807) (he3 : -9223372036854775808 ≤ b.e) (he4 : b.e ≤ 9223372036854775807) :
    Calls Tryd.prog 6 #[nv a, nv b] w fun e w' => e = .returned (.int .i64 (cmpN a b)) ∧ Below w.heap.size w w' := by
  have s1 := fun W => sign_any W a
  have s2 := fun W => sign_any W b
  have z := fun W => sizes_any W a b ha hb he1 he2 he3 he4
  unfold cmpN
  have hs1 : -1 ≤ sgn a ∧ sgn a ≤ 1 := by unfold sgn; repeat (split) <;> omega
  have h0 : ∀ x y : Nm, -1 ≤ csz0 x y ∧ csz0 x y ≤ 1 := fun x y => by
    unfold csz0
    split
    · omega
    · rcases cmpI_cases ((x.d * 10 ^ (x.e - y.e).toNat : Nat) : Int) (y.d : Int) with ⟨h, e⟩ | ⟨h, e⟩ | ⟨h, e⟩ <;> omega
  have hz : -1 ≤ csz a b ∧ csz a b ≤ 1 := by
    unfold csz
    have h1 := h0 a b
    have h2 := h0 b a
    split <;> omega
  have c24 := fun W => cmp24_any W (sgn a) (sgn b)
  obtain ⟨n1, d1, x1⟩ := a
  obtain ⟨n2, d2, x2⟩ := b
  unfold nv at *
  dsimp only at *
  generalize sgn ⟨n1, d1, x1⟩ = p at *
  generalize sgn ⟨n2, d2, x2⟩ = q at *
  generalize csz ⟨n1, d1, x1⟩ ⟨n2, d2, x2⟩ = r at *
  generalize cmpI p q = k at *
  obtain ⟨p1, p2⟩ := hs1
  obtain ⟨r1, r2⟩ := hz
  have hpr : -1 ≤ p * r ∧ p * r ≤ 1 := by
    have h3 : p = -1 ∨ p = 0 ∨ p = 1 := by omega
    rcases h3 with rfl | rfl | rfl <;> omega
  obtain ⟨pr1, pr2⟩ := hpr
  clear h0 ha hb he1 he2 he3 he4
  have hwr : IntKind.i64.wrap (p * r) = p * r := by
    have h3 : p * r = -1 ∨ p * r = 0 ∨ p * r = 1 := by omega
    rcases h3 with h | h | h <;> rw [h] <;> rfl
  have s3 : ∀ W, Calls Tryd.prog 25 #[.agg #[.bool n1, .int .u64 (d1 : Int), .int .i64 x1]] W fun e w' => e = .returned (.int .i64 p) ∧ Below W.heap.size W w' := fun W => (s1 W).mono fun e w' h => ⟨h.1, h.2 ▸ (Below.refl _ _).alloc (Nat.le_refl _) _⟩
  have HT := Two.start w n1 d1 x1 n2 d2 x2
  go_enter Tryd.func6, Tryd.ntmps6
  go_wp2
  go_cut [5] from 6 (fun s5 wx => s5 = .int .i64 k ∧ Hid (Below w.heap.size w wx) ∧ Hid (w.heap.size + 2 ≤ wx.heap.size) ∧ Hid (Two wx w.heap.size n1 d1 x1 n2 d2 x2))
  case first =>
    go_region_with (first | (go_at_call_of 25 x1; refine (s1 _).mono ?_; rintro e w' ⟨rfl, rfl⟩) | (go_at_call_of 25 x2; refine (s2 _).mono ?_; rintro e w' ⟨rfl, rfl⟩) | (go_at_call 24; refine (c24 _).mono ?_; rintro e w' ⟨rfl, rfl⟩))
    all_goals
      go_wp2
      go_meet
      case rel =>
        refine ⟨rfl, ?_, by simp [Hid, World.size_alloc], ?_⟩
        · show Below _ _ _
          repeat (first | refine Below.drew ?_ | refine Below.alloc ?_ (by simp <;> omega) _)
          exact Below.refl _ _
        · refine HT.on ?_
          repeat (first | exact Below.refl _ _ | refine Below.drew ?_ | refine Below.alloc ?_ (by simp <;> omega) _)
  case rest =>
    obtain ⟨rfl, HB, HS, HT2⟩ := hcut
    clear HT
    obtain ⟨a0, a1, a2, b0, b1, b2⟩ := HT2.out
    by_cases hk : k = 0
    · subst hk
      clear s1 s2 c24
      go_wp2
      go_region_with (first | (go_at_call 25; refine (s3 _).mono ?_; rintro e W3 ⟨rfl, hb3⟩; have hb3' : Below wc.heap.size wc W3 := ⟨hb3.os, hb3.tape, hb3.output, hb3.size, hb3.block⟩; clear hb3; obtain ⟨c0, c1, c2, e0, e1, e2⟩ := HT2.out.on (hb3'.mono HS.out); have HB3 : Hid (Below w.heap.size w W3) := HB.out.trans (hb3'.mono HB.out.size); clear hb3') | (go_at_call 26; refine (z _).mono ?_; rintro e W4 ⟨rfl, hb4⟩; have HB4 : Hid (Below w.heap.size w W4) := HB3.out.trans ((⟨hb4.os, hb4.tape, hb4.output, hb4.size, hb4.block⟩ : Below _ _ W4).mono HB3.out.size); clear hb4))
      all_goals
        go_wp2
        go_ret
        exact ⟨by first | rfl | simp, HB4.out⟩
    · have hkI : (k != 0) = true := by simp; exact hk
      go_wp2
      go_ret
      exact ⟨by first | rfl | (rw [if_pos hk]; rfl), HB.out⟩
end Go.Proofs.YtaingbnfalibjaaDoor
