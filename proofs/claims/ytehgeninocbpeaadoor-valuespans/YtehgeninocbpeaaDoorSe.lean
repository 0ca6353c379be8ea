import Derived.Test.YtehgeninocbpeaaDoorSd
import Derived.Deep.LoopGhost
/-
  DERIVED. Which rule a VR has; where a range's hyphen stands.
-/
namespace Go.Proofs.YtehgeninocbpeaaDoor.Tm
open Go Go.Proofs Go.RowKit

def rbL : List Int := [0, 3, 7, 7, 3, 1, 6, 1, 7, 7, 5, 3, 3, 7, 7, 2, 3, 7, 0, 7, 3, 1, 3, 4, 7, 7, 3, 7, 3]
def rcL : List Bool := [false, true, true, true, true, true, true, true, true, true, true, true, false, true, true, true, true, true, false, true, false, true, true, false, true, true, false, true, false]
def rB (v : Int) : Int := if v < 0 then 0 else rbL.getD v.toNat 0
def rC (v : Int) : Bool := if v < 0 then false else rcL.getD v.toNat false
structure Rt (w : World) : Prop where
  b : ∀ i, i < 29 → w.cell? ⟨0, 2 * i, none⟩ = some (.int .i64 (rbL.getD i 0))
  c : ∀ i, i < 29 → w.cell? ⟨0, 2 * i + 1, none⟩ = some (.bool (rcL.getD i false))
theorem Rt.on {w w' : World} (h : Rt w) (hb : Below w.heap.size w w') : Rt w' :=
  ⟨fun i hi => (hb.cell (cell_lt (h.b i hi))).trans (h.b i hi), fun i hi => (hb.cell (cell_lt (h.c i hi))).trans (h.c i hi)⟩

set_option maxRecDepth 100000 in
set_option maxHeartbeats 4000000 in
theorem ruleOf_any (w : World) (v : Int) (hR : Rt w) : Calls Tryd.prog 20 #[.int .i64 v] w fun e w' => e = .returned (.agg #[.int .i64 (rB v), .bool (rC v)]) ∧ Below w.heap.size w w' := by
  obtain ⟨W, hW⟩ : ∃ W, w.alloc (.cells #[.int .i64 0, .bool false] 58) = W := ⟨_, rfl⟩
  have HB : Hid (Below w.heap.size w W) := hW ▸ (Below.refl _ _).alloc (Nat.le_refl _) _
  have hr : W.rowIs w.heap.size 58 2 (fun k => #[Value.int .i64 0, .bool false].getD k undef) := by rw [← hW]; exact World.rowIs_alloc w _ 58 _ (row_lit _)
  have q0 : W.cell? ⟨w.heap.size, 0, none⟩ = some (.int .i64 0) := hr.cell (i := 0) (by omega)
  have q1 : W.cell? ⟨w.heap.size, 1, none⟩ = some (.bool false) := hr.cell (i := 1) (by omega)
  have qf : ∀ i, W.frozen? ⟨w.heap.size, i, none⟩ = false := fun i => hr.frozen i
  have HR : Hid (Rt W) := hR.on HB.out
  have hn : w.heap.size ≠ 0 := by have := cell_lt (hR.b 0 (by omega)); dsimp only at this; omega
  clear hr hR
  by_cases h0 : v < 0
  · unfold rB rC
    rw [if_pos h0, if_pos h0]
    have h0b : decide (v < 0) = true := decide_eq_true h0
    go_enter Tryd.func20, Tryd.ntmps20
    go_wp2
    refine bodyPost_ret (v := .agg #[.int .i64 0, .bool false]) (by simp [results, Tryd.results20, go_sem, q0, q1]) rfl ⟨rfl, ?_⟩
    exact (HB.out.setCell (p := ⟨w.heap.size, 0, none⟩) (Nat.le_refl _) _).setCell (p := ⟨w.heap.size, 1, none⟩) (Nat.le_refl _) _
  · by_cases h9 : 29 ≤ v
    · have e1 : rB v = 0 := by
        unfold rB
        rw [if_neg h0, List.getD_eq_getElem?_getD, List.getElem?_eq_none (by show 29 ≤ v.toNat; omega)]
        rfl
      have e2 : rC v = false := by
        unfold rC
        rw [if_neg h0, List.getD_eq_getElem?_getD, List.getElem?_eq_none (by show 29 ≤ v.toNat; omega)]
        rfl
      rw [e1, e2]
      clear e1 e2
      go_enter Tryd.func20, Tryd.ntmps20
      go_wp2
      refine bodyPost_ret (v := .agg #[.int .i64 0, .bool false]) (by simp [results, Tryd.results20, go_sem, q0, q1]) rfl ⟨rfl, ?_⟩
      exact (HB.out.setCell (p := ⟨w.heap.size, 0, none⟩) (Nat.le_refl _) _).setCell (p := ⟨w.heap.size, 1, none⟩) (Nat.le_refl _) _
    · obtain ⟨k, rfl⟩ : ∃ k : Nat, v = k := ⟨v.toNat, by omega⟩
      have hk : k < 29 := by omega
      have e1 : rB (k : Int) = rbL.getD k 0 := by unfold rB; rw [if_neg h0, Int.toNat_natCast]
      have e2 : rC (k : Int) = rcL.getD k false := by unfold rC; rw [if_neg h0, Int.toNat_natCast]
      have a0 := HR.out.b k hk
      have a1 := HR.out.c k hk
      rw [e1, e2]
      generalize rbL.getD k 0 = B at *
      generalize rcL.getD k false = C at *
      have hkI : (k : Int) < 29 := by omega
      have a0' : W.cell? ⟨0, k * 2, none⟩ = some (.int .i64 B) := by rw [Nat.mul_comm]; exact a0
      have a1' : W.cell? ⟨0, k * 2 + 1, none⟩ = some (.bool C) := by rw [Nat.mul_comm]; exact a1
      clear e1 e2 h0 h9
      go_enter Tryd.func20, Tryd.ntmps20
      go_wp2
      refine bodyPost_ret (v := .agg #[.int .i64 B, .bool C]) (by simp [results, Tryd.results20, go_sem, q0, q1]) rfl ⟨rfl, ?_⟩
      exact (HB.out.setCell (p := ⟨w.heap.size, 0, none⟩) (Nat.le_refl _) _).setCell (p := ⟨w.heap.size, 1, none⟩) (Nat.le_refl _) _

/-- Is the sign here a zone's, with the end or another hyphen behind it? -/
def zS0 (i : Nat) : Mst := { zeroS with a := i }
def zs (s : ByteArray) (i : Nat) : Bool := if (zoneS s (zS0 i)).b = true ∨ (zoneS s (zS0 i)).o ≠ none then false else decide ((zoneS s (zS0 i)).a = s.size) || decide (nx s (zoneS s (zS0 i)).a false = 45)
def ckZ (s : ByteArray) (i : Nat) : Nat → Value := fun k => #[Value.string s, .int .i64 (i : Int), .bool false, .nilIface, .int .i64 0, .int .i64 0, .int .i64 0, .int .i64 0, .int .i64 0, .int .i64 0, .int .i64 0, .int .i64 0, .int .i64 0, .bool false, .int .i64 0].getD k undef

set_option maxRecDepth 100000 in
set_option maxHeartbeats 2000000 in
theorem zoneSign_any (w : World) (s : ByteArray) (hs : s.size ≤ 140737488351232) (i : Nat) (hi : i ≤ s.size) (hT : Mt w) : Calls Tryd.prog 43 #[.string s, .int .i64 (i : Int)] w fun e w' => e = .returned (.bool (zs s i)) ∧ Below w.heap.size w w' := by
  obtain ⟨r, hr⟩ : ∃ r, w.heap.size = r := ⟨_, rfl⟩
  have hr2 : 2 < r := by
    have h := World.block_lt_of_cell? w ⟨2, 0, none⟩ (hT.p 0 (by omega))
    rw [hr] at h
    exact h
  obtain ⟨W1, hW1⟩ : ∃ W1, w.alloc (.cells #[.string s, .int .i64 (i : Int), .bool false, .nilIface, .int .i64 0, .int .i64 0, .int .i64 0, .int .i64 0, .int .i64 0, .int .i64 0, .int .i64 0, .int .i64 0, .int .i64 0, .bool false, .int .i64 0] 95) = W1 := ⟨_, rfl⟩
  have hbel : Below r w W1 := by rw [← hW1, ← hr]; exact (Below.refl _ _).alloc (Nat.le_refl _) _
  have hc1 : Cur W1 r (ckZ s i) s i false := by
    refine ⟨?_, rfl, rfl, rfl⟩
    rw [← hW1, ← hr]
    exact World.rowIs_alloc w _ 95 _ (row_lit _)
  have C1 : Ck W1 r s (zS0 i) := ⟨ckZ s i, { cur := hc1, le := hi, dbt := ⟨rfl, fun p hp => by cases hp⟩, v4 := rfl, v5 := rfl, v6 := rfl, v7 := rfl, v8 := rfl, v9 := rfl, v10 := rfl, v11 := rfl, v12 := rfl, v13 := rfl, v14 := rfl, tab := hT.on (hr ▸ hbel), q0 := by omega }⟩
  have c := zone_ck C1 hs
  have B1 : Hid (Below r w W1) := hbel
  have HW1 : Hid _ := hW1
  have hsz : r < W1.heap.size := hc1.row.lt
  clear hbel hc1 C1 hT hW1
  unfold zs
  generalize zoneS s (zS0 i) = S at *
  obtain ⟨Z, hZ⟩ : ∃ Z, (if S.b = true ∨ S.o ≠ none then false else decide (S.a = s.size) || decide (nx s S.a false = 45)) = Z := ⟨_, rfl⟩
  have HZ : Hid ((if S.b = true ∨ S.o ≠ none then false else decide (S.a = s.size) || decide (nx s S.a false = 45)) = Z) := hZ
  rw [hZ]
  clear hZ
  go_enter Tryd.func43, Tryd.ntmps43
  go_wp2_with (go_at_call 53; refine Stop.mk ?_)
  rw [HW1.out]
  refine Stop.out (c.mono ?_)
  rintro e W2 ⟨v2, rfl, hc2, hg2⟩
  have B2 : Hid (Below r w W2) := B1.out.grown hg2 (Nat.le_of_lt hsz) (fun k hk => by simp at hk; omega)
  obtain ⟨f, hf⟩ := hc2
  have g1 : W2.cell? ⟨r, 1, none⟩ = some (.int .i64 (S.a : Int)) := by have h := hf.cur.row.cell (i := 1) (by omega); rw [hf.cur.c1] at h; exact h
  have g2 : W2.cell? ⟨r, 2, none⟩ = some (.bool S.b) := by have h := hf.cur.row.cell (i := 2) (by omega); rw [hf.cur.c2] at h; exact h
  have g3 : W2.cell? ⟨r, 3, none⟩ = some (f 3) := hf.cur.row.cell (i := 3) (by omega)
  have c101 := next_any W2 r f s S.a S.b hf.cur hf.le
  have hle := hf.le
  have hd := hf.dbt.1
  clear c hg2 hf B1 HW1
  obtain ⟨b, hb⟩ : ∃ b, S.b = b := ⟨_, rfl⟩
  obtain ⟨o, ho⟩ : ∃ o, S.o = o := ⟨_, rfl⟩
  rw [hb] at g2 c101
  rw [ho] at hd
  rw [hb, ho] at HZ
  generalize f 3 = v3 at *
  generalize S.a = A at *
  clear hb ho
  cases b with
  | true =>
    have HZ2 : Hid (false = Z) := by have := HZ.out; rw [if_pos (.inl rfl)] at this; exact this
    clear HZ
    go_wp2
    go_ret
    exact ⟨by rw [← HZ2.out]; rfl, hr ▸ B2.out⟩
  | false =>
    cases o with
    | some x =>
      have HZ2 : Hid (false = Z) := by have := HZ.out; rw [if_pos (.inr (by simp))] at this; exact this
      clear HZ
      obtain ⟨q, rfl, _⟩ := hd
      go_wp2
      go_ret
      exact ⟨by rw [← HZ2.out]; rfl, hr ▸ B2.out⟩
    | none =>
      obtain rfl : v3 = .nilIface := hd
      have HZ2 : Hid ((decide (A = s.size) || decide (nx s A false = 45)) = Z) := by have := HZ.out; rw [if_neg (by simp)] at this; exact this
      clear HZ
      by_cases hA : A = s.size
      · have hAI : ((A : Int) == (s.size : Int)) = true := by rw [hA]; simp
        have HZ3 : Hid (true = Z) := by have := HZ2.out; rw [decide_eq_true hA, Bool.true_or] at this; exact this
        clear HZ2
        have HA : Hid (A = s.size) := hA
        clear hA
        go_wp2
        go_ret
        exact ⟨by rw [← HZ3.out]; rfl, hr ▸ B2.out⟩
      · have hAI : ((A : Int) == (s.size : Int)) = false := by simp; omega
        have HZ3 : Hid (decide (nx s A false = 45) = Z) := by have := HZ2.out; rw [decide_eq_false hA, Bool.false_or] at this; exact this
        have HA : Hid (¬ A = s.size) := hA
        clear hA HZ2
        go_wp2_with (go_at_call 60; refine Stop.mk ?_)
        refine Stop.out (c101.mono ?_)
        rintro e W3 ⟨rfl, n, rfl⟩
        have hx := nx_lt s A false
        generalize nx s A false = X at *
        go_wp2
        go_ret
        refine ⟨?_, hr ▸ below_drewN B2.out _⟩
        rw [← HZ3.out]
        show Ending.returned (Value.bool _) = _
        congr 2
        rw [Bool.eq_iff_iff]
        simp
        omega

/-- Where a range's hyphen stands. -/
def dz (s : ByteArray) : Nat → Nat → Int
  | 0, _ => -1
  | f + 1, i => if (s.get! i).toNat = 45 ∧ (i = 0 ∨ zs s i = false) then (i : Int) else dz s f (i + 1)
def dsh (vr : Int) (s : ByteArray) : Int := if vr = 7 then dz s s.size 0 else Lib.indexByte s.data.toList 45

set_option maxRecDepth 100000 in
set_option maxHeartbeats 2000000 in
theorem dashOf_any (w : World) (vr : Int) (s : ByteArray) (hs : s.size ≤ 140737488351232) (hT : Mt w) : Calls Tryd.prog 19 #[.int .i64 vr, .string s] w fun e w' => e = .returned (.int .i64 (dsh vr s)) ∧ Below w.heap.size w w' := by
  unfold dsh
  by_cases hv : vr = 7
  · subst hv
    rw [if_pos rfl]
    obtain ⟨R, hR⟩ : ∃ R, dz s s.size 0 = R := ⟨_, rfl⟩
    have HR : Hid (dz s s.size 0 = R) := hR
    rw [hR]
    have HT : Hid (Mt w) := hT
    clear hR hT
    go_enter Tryd.func19, Tryd.ntmps19
    go_wp2
    go_loopg [12] s.size (fun g s12 wx => ∃ i : Nat, s12 = .int .i64 (i : Int) ∧ i ≤ s.size ∧ g + i = s.size ∧ Hid (dz s (s.size - i) i = R) ∧ Hid (Below w.heap.size w wx))
    case atStart => exact ⟨0, rfl, by omega, by omega, HR, Below.refl _ _⟩
    case round =>
      obtain ⟨i, rfl, hi, hg, HI, HB⟩ := hrel
      by_cases hl : i < s.size
      · have hz : s.size - i = (s.size - (i + 1)) + 1 := by omega
        have HI2 : Hid ((if (s.get! i).toNat = 45 ∧ (i = 0 ∨ zs s i = false) then (i : Int) else dz s (s.size - (i + 1)) (i + 1)) = R) := by
          have := HI.out
          rw [hz, dz] at this
          exact this
        have hgt := get_get! s i hl
        have c119 := zoneSign_any wr s hs i (by omega) (HT.out.on HB.out)
        by_cases h45 : (s.get! i).toNat = 45
        · have hb45 : s[i].toNat = 45 := by rw [hgt]; exact h45
          by_cases h0 : i = 0
          · subst h0
            have e : Hid ((0 : Int) = R) := by have := HI2.out; rw [if_pos ⟨h45, .inl rfl⟩] at this; exact this
            clear c119 HI2 HI
            go_wp2
            go_ret
            exact ⟨by rw [← e.out]; rfl, HB.out⟩
          · have h0b : ((i : Int) == 0) = false := by simp; omega
            cases hz2 : zs s i with
            | false =>
              have e : Hid ((i : Int) = R) := by have := HI2.out; rw [if_pos ⟨h45, .inr hz2⟩] at this; exact this
              rw [hz2] at c119
              clear HI2 HI h0
              go_wp2_with (go_at_call 43; refine Stop.mk ?_)
              refine Stop.out (c119.mono ?_)
              rintro e2 W2 ⟨rfl, hb2⟩
              have HB2 : Hid (Below w.heap.size w W2) := HB.out.trans (hb2.mono HB.out.size)
              clear hb2 c119
              go_wp2
              go_ret
              exact ⟨by rw [← e.out]; rfl, HB2.out⟩
            | true =>
              have HI3 : Hid (dz s (s.size - (i + 1)) (i + 1) = R) := by have := HI2.out; rw [if_neg (by rw [hz2]; simp [h0])] at this; exact this
              rw [hz2] at c119
              clear HI2 HI h0
              go_wp2_with (go_at_call 43; refine Stop.mk ?_)
              refine Stop.out (c119.mono ?_)
              rintro e2 W2 ⟨rfl, hb2⟩
              have HB2 : Hid (Below w.heap.size w W2) := HB.out.trans (hb2.mono HB.out.size)
              clear hb2 c119
              go_wp2
              go_roundg (s.size - (i + 1))
              case measure => omega
              case rel => exact ⟨i + 1, by simp, by omega, by omega, HI3, HB2⟩
        · have hb45 : (s[i].toNat == 45) = false := by rw [hgt]; simpa using h45
          have hbI : (((s[i].toNat : Nat) : Int) == 45) = false := by rw [hgt]; simp; omega
          have HI3 : Hid (dz s (s.size - (i + 1)) (i + 1) = R) := by have := HI2.out; rw [if_neg (fun h => h45 h.1)] at this; exact this
          clear c119 HI2 HI
          go_wp2
          go_roundg (s.size - (i + 1))
          case measure => omega
          case rel => exact ⟨i + 1, by simp, by omega, by omega, HI3, HB⟩
      · have e : Hid ((-1 : Int) = R) := by have := HI.out; rw [show s.size - i = 0 by omega, dz] at this; exact this
        clear HI
        go_wp2
        go_ret
        exact ⟨by rw [← e.out]; rfl, HB.out⟩
  · rw [if_neg hv]
    have hvb : (vr == 7) = false := by simpa using hv
    have c := idx88_any w s 45
    go_enter Tryd.func19, Tryd.ntmps19
    go_wp2_with (go_at_call 42; refine Stop.mk ?_)
    refine Stop.out (c.mono ?_)
    rintro e W2 ⟨rfl, rfl⟩
    go_wp2
    go_ret
    exact ⟨rfl, Below.refl _ _⟩
end Go.Proofs.YtehgeninocbpeaaDoor.Tm
