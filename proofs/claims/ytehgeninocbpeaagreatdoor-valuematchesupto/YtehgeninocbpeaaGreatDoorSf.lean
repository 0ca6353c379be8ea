import Derived.Test.YtehgeninocbpeaaGreatDoorSd
import Derived.Deep.LoopGhost
import Derived.Deep.Cut
namespace Go.Proofs.YtehgeninocbpeaaGreatDoor.Tm
open Go Go.Proofs Go.RowKit
def rbL : List Int := [0, 3, 7, 7, 3, 1, 6, 1, 7, 7, 5, 3, 3, 7, 7, 2, 3, 7, 0, 7, 3, 1, 3, 4, 7, 7, 3, 7, 3]
def rcL : List Bool := [false, true, true, true, true, true, true, true, true, true, true, true, false, true, true, true, true, true, false, true, false, true, true, false, true, true, false, true, false]
def rB (v : Int) : Int := if v < 0 then 0 else rbL.getD v.toNat 0
def rC (v : Int) : Bool := if v < 0 then false else rcL.getD v.toNat false
structure Rt (w : World) : Prop where
  b : ∀ i, i < 29 → w.cell? ⟨0, 2 * i, none⟩ = some (.int .i64 (rbL.getD i 0))
  c : ∀ i, i < 29 → w.cell? ⟨0, 2 * i + 1, none⟩ = some (.bool (rcL.getD i false))
theorem Rt.on {w w' : World} (h : Rt w) (hb : Below w.heap.size w w') : Rt w' :=
  ⟨fun i hi => (hb.cell (cell_lt (h.b i hi))).trans (h.b i hi), fun i hi => (hb.cell (cell_lt (h.c i hi))).trans (h.c i hi)⟩
set_option maxRecDepth 100000 in
set_option maxHeartbeats 4000000 in
theorem ruleOf_any (w : World) (v : Int) (hR : Rt w) : Calls Tryz.prog 18 #[.int .i64 v] w fun e w' => e = .returned (.agg #[.int .i64 (rB v), .bool (rC v)]) ∧ Below w.heap.size w w' := by
  obtain ⟨W, hW⟩ : ∃ W, w.alloc (.cells #[.int .i64 0, .bool false] 45) = W := ⟨_, rfl⟩
  have HB : Hid (Below w.heap.size w W) := hW ▸ (Below.refl _ _).alloc (Nat.le_refl _) _
  have hr : W.rowIs w.heap.size 45 2 (fun k => #[Value.int .i64 0, .bool false].getD k undef) := by rw [← hW]; exact World.rowIs_alloc w _ 45 _ (row_lit _)
  have q0 : W.cell? ⟨w.heap.size, 0, none⟩ = some (.int .i64 0) := hr.cell (i := 0) (by omega)
  have q1 : W.cell? ⟨w.heap.size, 1, none⟩ = some (.bool false) := hr.cell (i := 1) (by omega)
  have qf : ∀ i, W.frozen? ⟨w.heap.size, i, none⟩ = false := fun i => hr.frozen i
  have HR : Hid (Rt W) := hR.on HB.out
  have hn : w.heap.size ≠ 0 := by have := cell_lt (hR.b 0 (by omega)); dsimp only at this; omega
  clear hr hR
  by_cases h0 : v < 0
  · unfold rB rC
    rw [if_pos h0, if_pos h0]
    have h0b : decide (v < 0) = true := decide_eq_true h0
    go_enter Tryz.func18, Tryz.ntmps18
    go_wp2
    refine bodyPost_ret (v := .agg #[.int .i64 0, .bool false]) (by simp [results, Tryz.results18, go_sem, q0, q1]) rfl ⟨rfl, ?_⟩
    exact (HB.out.setCell (p := ⟨w.heap.size, 0, none⟩) (Nat.le_refl _) _).setCell (p := ⟨w.heap.size, 1, none⟩) (Nat.le_refl _) _
  · by_cases h9 : 29 ≤ v
    · have e1 : rB v = 0 := by
        unfold rB
        rw [if_neg h0, List.getD_eq_getElem?_getD, List.getElem?_eq_none (by show 29 ≤ v.toNat; omega)]
        rfl
      have e2 : rC v = false := by
        unfold rC
        rw [if_neg h0, List.getD_eq_getElem?_getD, List.getElem?_eq_none (by show 29 ≤ v.toNat; omega)]
        rfl
      rw [e1, e2]
      clear e1 e2
      go_enter Tryz.func18, Tryz.ntmps18
      go_wp2
      refine bodyPost_ret (v := .agg #[.int .i64 0, .bool false]) (by simp [results, Tryz.results18, go_sem, q0, q1]) rfl ⟨rfl, ?_⟩
      exact (HB.out.setCell (p := ⟨w.heap.size, 0, none⟩) (Nat.le_refl _) _).setCell (p := ⟨w.heap.size, 1, none⟩) (Nat.le_refl _) _
    · obtain ⟨k, rfl⟩ : ∃ k : Nat, v = k := ⟨v.toNat, by omega⟩
      have hk : k < 29 := by omega
      have e1 : rB (k : Int) = rbL.getD k 0 := by unfold rB; rw [if_neg h0, Int.toNat_natCast]
      have e2 : rC (k : Int) = rcL.getD k false := by unfold rC; rw [if_neg h0, Int.toNat_natCast]
      have a0 := HR.out.b k hk
      have a1 := HR.out.c k hk
      rw [e1, e2]
      generalize rbL.getD k 0 = B at *
      generalize rcL.getD k false = C at *
      have hkI : (k : Int) < 29 := by omega
      have a0' : W.cell? ⟨0, k * 2, none⟩ = some (.int .i64 B) := by rw [Nat.mul_comm]; exact a0
      have a1' : W.cell? ⟨0, k * 2 + 1, none⟩ = some (.bool C) := by rw [Nat.mul_comm]; exact a1
      clear e1 e2 h0 h9
      go_enter Tryz.func18, Tryz.ntmps18
      go_wp2
      refine bodyPost_ret (v := .agg #[.int .i64 B, .bool C]) (by simp [results, Tryz.results18, go_sem, q0, q1]) rfl ⟨rfl, ?_⟩
      exact (HB.out.setCell (p := ⟨w.heap.size, 0, none⟩) (Nat.le_refl _) _).setCell (p := ⟨w.heap.size, 1, none⟩) (Nat.le_refl _) _
def zS0 (i : Nat) : Mst := { zeroS with a := i }
def zs (s : ByteArray) (i : Nat) : Bool := if (zoneS s (zS0 i)).b = true ∨ (zoneS s (zS0 i)).o ≠ none then false else decide ((zoneS s (zS0 i)).a = s.size) || decide (nx s (zoneS s (zS0 i)).a false = 45)
def ckZ (s : ByteArray) (i : Nat) : Nat → Value := fun k => #[Value.string s, .int .i64 (i : Int), .bool false, .nilIface, .int .i64 0, .int .i64 0, .int .i64 0, .int .i64 0, .int .i64 0, .int .i64 0, .int .i64 0, .int .i64 0, .int .i64 0, .bool false, .int .i64 0].getD k undef
set_option maxRecDepth 100000 in
set_option maxHeartbeats 2000000 in
theorem zoneSign_any (w : World) (s : ByteArray) (hs : s.size ≤ 140737488351232) (i : Nat) (hi : i ≤ s.size) (hT : Mt w) : Calls Tryz.prog 119 #[.string s, .int .i64 (i : Int)] w fun e w' => e = .returned (.bool (zs s i)) ∧ Below w.heap.size w w' := by
  obtain ⟨r, hr⟩ : ∃ r, w.heap.size = r := ⟨_, rfl⟩
  have hr2 : 5 < r := by
    have h := World.block_lt_of_cell? w ⟨5, 0, none⟩ (hT.p 0 (by omega))
    rw [hr] at h
    exact h
  obtain ⟨W1, hW1⟩ : ∃ W1, w.alloc (.cells #[.string s, .int .i64 (i : Int), .bool false, .nilIface, .int .i64 0, .int .i64 0, .int .i64 0, .int .i64 0, .int .i64 0, .int .i64 0, .int .i64 0, .int .i64 0, .int .i64 0, .bool false, .int .i64 0] 179) = W1 := ⟨_, rfl⟩
  have hbel : Below r w W1 := by rw [← hW1, ← hr]; exact (Below.refl _ _).alloc (Nat.le_refl _) _
  have hc1 : Cur W1 r (ckZ s i) s i false := by
    refine ⟨?_, rfl, rfl, rfl⟩
    rw [← hW1, ← hr]
    exact World.rowIs_alloc w _ 179 _ (row_lit _)
  have C1 : Ck W1 r s (zS0 i) := ⟨ckZ s i, { cur := hc1, le := hi, dbt := ⟨rfl, fun p hp => by cases hp⟩, v4 := rfl, v5 := rfl, v6 := rfl, v7 := rfl, v8 := rfl, v9 := rfl, v10 := rfl, v11 := rfl, v12 := rfl, v13 := rfl, v14 := rfl, tab := hT.on (hr ▸ hbel), q0 := by omega }⟩
  have c := zone_ck C1 hs
  have B1 : Hid (Below r w W1) := hbel
  have HW1 : Hid _ := hW1
  have hsz : r < W1.heap.size := hc1.row.lt
  clear hbel hc1 C1 hT hW1
  unfold zs
  generalize zoneS s (zS0 i) = S at *
  obtain ⟨Z, hZ⟩ : ∃ Z, (if S.b = true ∨ S.o ≠ none then false else decide (S.a = s.size) || decide (nx s S.a false = 45)) = Z := ⟨_, rfl⟩
  have HZ : Hid ((if S.b = true ∨ S.o ≠ none then false else decide (S.a = s.size) || decide (nx s S.a false = 45)) = Z) := hZ
  rw [hZ]
  clear hZ
  go_enter Tryz.func119, Tryz.ntmps119
  go_wp2_with (go_at_call 139; refine Stop.mk ?_)
  rw [HW1.out]
  refine Stop.out (c.mono ?_)
  rintro e W2 ⟨v2, rfl, hc2, hg2⟩
  have B2 : Hid (Below r w W2) := B1.out.grown hg2 (Nat.le_of_lt hsz) (fun k hk => by simp at hk; omega)
  obtain ⟨f, hf⟩ := hc2
  have g1 : W2.cell? ⟨r, 1, none⟩ = some (.int .i64 (S.a : Int)) := by have h := hf.cur.row.cell (i := 1) (by omega); rw [hf.cur.c1] at h; exact h
  have g2 : W2.cell? ⟨r, 2, none⟩ = some (.bool S.b) := by have h := hf.cur.row.cell (i := 2) (by omega); rw [hf.cur.c2] at h; exact h
  have g3 : W2.cell? ⟨r, 3, none⟩ = some (f 3) := hf.cur.row.cell (i := 3) (by omega)
  have c101 := next_any W2 r f s S.a S.b hf.cur hf.le
  have hle := hf.le
  have hd := hf.dbt.1
  clear c hg2 hf B1 HW1
  obtain ⟨b, hb⟩ : ∃ b, S.b = b := ⟨_, rfl⟩
  obtain ⟨o, ho⟩ : ∃ o, S.o = o := ⟨_, rfl⟩
  rw [hb] at g2 c101
  rw [ho] at hd
  rw [hb, ho] at HZ
  generalize f 3 = v3 at *
  generalize S.a = A at *
  clear hb ho
  cases b with
  | true =>
    have HZ2 : Hid (false = Z) := by have := HZ.out; rw [if_pos (.inl rfl)] at this; exact this
    clear HZ
    go_wp2
    go_ret
    exact ⟨by rw [← HZ2.out]; rfl, hr ▸ B2.out⟩
  | false =>
    cases o with
    | some x =>
      have HZ2 : Hid (false = Z) := by have := HZ.out; rw [if_pos (.inr (by simp))] at this; exact this
      clear HZ
      obtain ⟨q, rfl, _⟩ := hd
      go_wp2
      go_ret
      exact ⟨by rw [← HZ2.out]; rfl, hr ▸ B2.out⟩
    | none =>
      obtain rfl : v3 = .nilIface := hd
      have HZ2 : Hid ((decide (A = s.size) || decide (nx s A false = 45)) = Z) := by have := HZ.out; rw [if_neg (by simp)] at this; exact this
      clear HZ
      by_cases hA : A = s.size
      · have hAI : ((A : Int) == (s.size : Int)) = true := by rw [hA]; simp
        have HZ3 : Hid (true = Z) := by have := HZ2.out; rw [decide_eq_true hA, Bool.true_or] at this; exact this
        clear HZ2
        have HA : Hid (A = s.size) := hA
        clear hA
        go_wp2
        go_ret
        exact ⟨by rw [← HZ3.out]; rfl, hr ▸ B2.out⟩
      · have hAI : ((A : Int) == (s.size : Int)) = false := by simp; omega
        have HZ3 : Hid (decide (nx s A false = 45) = Z) := by have := HZ2.out; rw [decide_eq_false hA, Bool.false_or] at this; exact this
        have HA : Hid (¬ A = s.size) := hA
        clear hA HZ2
        go_wp2_with (go_at_call 101; refine Stop.mk ?_)
        refine Stop.out (c101.mono ?_)
        rintro e W3 ⟨rfl, n, rfl⟩
        have hx := nx_lt s A false
        generalize nx s A false = X at *
        go_wp2
        go_ret
        refine ⟨?_, hr ▸ below_drewN B2.out _⟩
        rw [← HZ3.out]
        show Ending.returned (Value.bool _) = _
        congr 2
        rw [Bool.eq_iff_iff]
        simp
        omega
def dz (s : ByteArray) : Nat → Nat → Int
  | 0, _ => -1
  | f + 1, i => if (s.get! i).toNat = 45 ∧ (i = 0 ∨ zs s i = false) then (i : Int) else dz s f (i + 1)
def dsh (vr : Int) (s : ByteArray) : Int := if vr = 7 then dz s s.size 0 else Lib.indexByte s.data.toList 45
set_option maxRecDepth 100000 in
set_option maxHeartbeats 2000000 in
theorem dashOf_any (w : World) (vr : Int) (s : ByteArray) (hs : s.size ≤ 140737488351232) (hT : Mt w) : Calls Tryz.prog 94 #[.int .i64 vr, .string s] w fun e w' => e = .returned (.int .i64 (dsh vr s)) ∧ Below w.heap.size w w' := by
  unfold dsh
  by_cases hv : vr = 7
  · subst hv
    rw [if_pos rfl]
    obtain ⟨R, hR⟩ : ∃ R, dz s s.size 0 = R := ⟨_, rfl⟩
    have HR : Hid (dz s s.size 0 = R) := hR
    rw [hR]
    have HT : Hid (Mt w) := hT
    clear hR hT
    go_enter Tryz.func94, Tryz.ntmps94
    go_wp2
    go_loopg [12] s.size (fun g s12 wx => ∃ i : Nat, s12 = .int .i64 (i : Int) ∧ i ≤ s.size ∧ g + i = s.size ∧ Hid (dz s (s.size - i) i = R) ∧ Hid (Below w.heap.size w wx))
    case atStart => exact ⟨0, rfl, by omega, by omega, HR, Below.refl _ _⟩
    case round =>
      obtain ⟨i, rfl, hi, hg, HI, HB⟩ := hrel
      by_cases hl : i < s.size
      · have hz : s.size - i = (s.size - (i + 1)) + 1 := by omega
        have HI2 : Hid ((if (s.get! i).toNat = 45 ∧ (i = 0 ∨ zs s i = false) then (i : Int) else dz s (s.size - (i + 1)) (i + 1)) = R) := by
          have := HI.out
          rw [hz, dz] at this
          exact this
        have hgt := get_get! s i hl
        have c119 := zoneSign_any wr s hs i (by omega) (HT.out.on HB.out)
        by_cases h45 : (s.get! i).toNat = 45
        · have hb45 : s[i].toNat = 45 := by rw [hgt]; exact h45
          by_cases h0 : i = 0
          · subst h0
            have e : Hid ((0 : Int) = R) := by have := HI2.out; rw [if_pos ⟨h45, .inl rfl⟩] at this; exact this
            clear c119 HI2 HI
            go_wp2
            go_ret
            exact ⟨by rw [← e.out]; rfl, HB.out⟩
          · have h0b : ((i : Int) == 0) = false := by simp; omega
            cases hz2 : zs s i with
            | false =>
              have e : Hid ((i : Int) = R) := by have := HI2.out; rw [if_pos ⟨h45, .inr hz2⟩] at this; exact this
              rw [hz2] at c119
              clear HI2 HI h0
              go_wp2_with (go_at_call 119; refine Stop.mk ?_)
              refine Stop.out (c119.mono ?_)
              rintro e2 W2 ⟨rfl, hb2⟩
              have HB2 : Hid (Below w.heap.size w W2) := HB.out.trans (hb2.mono HB.out.size)
              clear hb2 c119
              go_wp2
              go_ret
              exact ⟨by rw [← e.out]; rfl, HB2.out⟩
            | true =>
              have HI3 : Hid (dz s (s.size - (i + 1)) (i + 1) = R) := by have := HI2.out; rw [if_neg (by rw [hz2]; simp [h0])] at this; exact this
              rw [hz2] at c119
              clear HI2 HI h0
              go_wp2_with (go_at_call 119; refine Stop.mk ?_)
              refine Stop.out (c119.mono ?_)
              rintro e2 W2 ⟨rfl, hb2⟩
              have HB2 : Hid (Below w.heap.size w W2) := HB.out.trans (hb2.mono HB.out.size)
              clear hb2 c119
              go_wp2
              go_roundg (s.size - (i + 1))
              case measure => omega
              case rel => exact ⟨i + 1, by simp, by omega, by omega, HI3, HB2⟩
        · have hb45 : (s[i].toNat == 45) = false := by rw [hgt]; simpa using h45
          have hbI : (((s[i].toNat : Nat) : Int) == 45) = false := by rw [hgt]; simp; omega
          have HI3 : Hid (dz s (s.size - (i + 1)) (i + 1) = R) := by have := HI2.out; rw [if_neg (fun h => h45 h.1)] at this; exact this
          clear c119 HI2 HI
          go_wp2
          go_roundg (s.size - (i + 1))
          case measure => omega
          case rel => exact ⟨i + 1, by simp, by omega, by omega, HI3, HB⟩
      · have e : Hid ((-1 : Int) = R) := by have := HI.out; rw [show s.size - i = 0 by omega, dz] at this; exact this
        clear HI
        go_wp2
        go_ret
        exact ⟨by rw [← e.out]; rfl, HB.out⟩
  · rw [if_neg hv]
    have hvb : (vr == 7) = false := by simpa using hv
    have c := idx88_any w s 45
    go_enter Tryz.func94, Tryz.ntmps94
    go_wp2_with (go_at_call 102; refine Stop.mk ?_)
    refine Stop.out (c.mono ?_)
    rintro e W2 ⟨rfl, rfl⟩
    go_wp2
    go_ret
    exact ⟨rfl, Below.refl _ _⟩
end Go.Proofs.YtehgeninocbpeaaGreatDoor.Tm

namespace Go.Proofs.YtehgeninocbpeaaGreatDoor.Tm
open Go Go.Proofs Go.RowKit
def btF (vr : Int) (s : ByteArray) (d : Nat) : Int := if d = 0 then -4611686018427387904 else (ow vr (s.extract 0 d) 0).1
def btO (vr : Int) (s : ByteArray) (d : Nat) : Option (Int × Int) := if d = 0 then none else oR vr (s.extract 0 d) 0
def bt (vr : Int) (s : ByteArray) (d : Nat) : (Int × Int) × Option (Int × Int) :=
  if btO vr s d ≠ none then ((0, 0), btO vr s d)
  else if d + 1 = s.size then ((btF vr s d, 4611686018427387904), none)
  else if oR vr s (d + 1) ≠ none then ((0, 0), oR vr s (d + 1))
  else if (ow vr s (d + 1)).2 < btF vr s d then ((0, 0), some (((d + 1 : Nat) : Int), 101))
  else ((btF vr s d, (ow vr s (d + 1)).2), none)
def f2I (a b : Int) : Nat → Value := fun k => #[Value.int .i64 a, .int .i64 b].getD k undef
structure Bq (w W : World) (r : Nat) (F L : Int) : Prop where
  z : W.rowIs r 66 2 (f2I 0 0)
  s : W.rowIs (r + 1) 66 2 (f2I F L)
  b : Below r w W
  t : Mt W
  o : Ot W
theorem Bq.on {w W W' : World} {r : Nat} {F L : Int} (h : Bq w W r F L) (hb : Below W.heap.size W W') : Bq w W' r F L :=
  ⟨h.z.of_block (hb.block _ h.z.lt), h.s.of_block (hb.block _ h.s.lt), h.b.trans (hb.mono (Nat.le_of_lt h.z.lt)), h.t.on hb, h.o.on hb⟩
theorem row_congr2 {w : World} {q : Nat} {t : TypeId} {n : Nat} {f g : Nat → Value} (h : w.rowIs q t n f) (he : ∀ i, i < n → f i = g i) : w.rowIs q t n g := by
  obtain ⟨c, h1, h2, h3⟩ := h
  exact ⟨c, h1, h2, fun i hi => by rw [← he i hi]; exact h3 i hi⟩
theorem Bq.put {w W : World} {r : Nat} {F L : Int} (h : Bq w W r F L) (h5 : 5 < r) (i : Nat) (x F' L' : Int) (hi : (i = 0 ∧ F' = x ∧ L' = L) ∨ (i = 1 ∧ F' = F ∧ L' = x)) : Bq w (W.setCell ⟨r + 1, i, none⟩ (.int .i64 x)) r F' L' := by
  refine ⟨h.z.setOther (by show r ≠ r + 1; omega) _, row_congr2 (h.s.set i _) ?_, h.b.setCell (p := ⟨r + 1, i, none⟩) (by show r ≤ r + 1; omega) _, ⟨fun k hk => ?_⟩, ⟨fun k hk => ?_⟩⟩
  · intro k hk
    rcases hi with ⟨rfl, rfl, rfl⟩ | ⟨rfl, rfl, rfl⟩
    · rcases (by omega : k = 0 ∨ k = 1) with rfl | rfl <;> rfl
    · rcases (by omega : k = 0 ∨ k = 1) with rfl | rfl <;> rfl
  · rw [cell_set_off (by omega)]; exact h.t.p k hk
  · rw [cell_set_off (by omega)]; exact h.o.p k hk
set_option maxRecDepth 100000 in
set_option maxHeartbeats 4000000 in
theorem between_any (w : World) (vr : Int) (hv : isSp vr) (s : ByteArray) (hs : s.size ≤ 140737488351232) (d : Nat) (hd : d < s.size) (hT : Mt w) (hO : Ot w) :
    Calls Tryz.prog 95 #[.int .i64 vr, .string s, .int .i64 (d : Int)] w (PostR w (sp (bt vr s d).1.1 (bt vr s d).1.2) (bt vr s d).2) := by
  have hx : (s.extract 0 d).size ≤ 140737488351232 := by rw [ByteArray.size_extract]; omega
  have cA := fun W h1 h2 => own_at W vr hv (s.extract 0 d) hx 0 (Nat.zero_le _) h1 h2
  have cB := fun W h1 h2 => own_at W vr hv s hs (d + 1) (by omega) h1 h2
  obtain ⟨A, hA⟩ : ∃ A, (bt vr s d).1.1 = A := ⟨_, rfl⟩
  obtain ⟨B, hB⟩ : ∃ B, (bt vr s d).1.2 = B := ⟨_, rfl⟩
  obtain ⟨o, ho⟩ : ∃ o, (bt vr s d).2 = o := ⟨_, rfl⟩
  have HA : Hid (bt vr s d = ((A, B), o)) := Prod.ext (Prod.ext hA hB) ho
  rw [hA, hB, ho]
  clear hA hB ho
  unfold bt at HA
  have HF : Hid (btF vr s d = if d = 0 then -4611686018427387904 else (ow vr (s.extract 0 d) 0).1) := rfl
  have HO : Hid (btO vr s d = if d = 0 then none else oR vr (s.extract 0 d) 0) := rfl
  generalize btF vr s d = F at *
  generalize btO vr s d = oF at *
  generalize (ow vr (s.extract 0 d) 0).1 = F1 at *
  generalize (ow vr (s.extract 0 d) 0).2 = L1 at *
  generalize oR vr (s.extract 0 d) 0 = o1 at *
  generalize (ow vr s (d + 1)).1 = F2 at *
  generalize (ow vr s (d + 1)).2 = L2 at *
  generalize oR vr s (d + 1) = o2 at *
  obtain ⟨r, hr⟩ : ∃ r, w.heap.size = r := ⟨_, rfl⟩
  obtain ⟨W0, hW0⟩ : ∃ W0, (w.alloc (.cells #[.int .i64 0, .int .i64 0] 66)).alloc (.cells #[.int .i64 (-4611686018427387904), .int .i64 4611686018427387904] 66) = W0 := ⟨_, rfl⟩
  have K0 : Hid (Bq w W0 r (-4611686018427387904) 4611686018427387904) := by
    have hb0 : Below r w W0 := by rw [← hW0, ← hr]; exact ((Below.refl _ _).alloc (Nat.le_refl _) _).alloc (by simp) _
    refine ⟨?_, ?_, hb0, hT.on (hr ▸ hb0), hO.on (hr ▸ hb0)⟩
    · rw [← hW0, ← hr]
      exact World.rowIs.alloc (World.rowIs_alloc w _ 66 _ (row_lit _)) _
    · rw [← hW0, ← hr]
      have := World.rowIs_alloc (w.alloc (.cells #[.int .i64 0, .int .i64 0] 66)) #[.int .i64 (-4611686018427387904), .int .i64 4611686018427387904] 66 _ (row_lit _)
      rw [World.size_alloc] at this
      exact this
  have h5 : 5 < r := by have := cell_lt (hT.p 0 (by omega)); dsimp only at this; omega
  have hdI : (d : Int) ≤ (s.size : Int) := by omega
  have e1 : ((d + 1 : Nat) : Int) = (d : Int) + 1 := by omega
  rw [e1] at cB
  have HC : Hid _ := cA
  have HD : Hid _ := cB
  clear hT hO cA cB hv hx e1
  unfold sp at HC HD ⊢
  go_enter Tryz.func95, Tryz.ntmps95
  go_upto_if 16 with fail
  go_cut [6, 7, 8] from 9 (fun s6 s7 s8 wx => s6 = .pointer (some ⟨r, 0, none⟩) ∧ s7 = .nilIface ∧ s8 = .pointer (some ⟨r + 1, 0, none⟩) ∧ oF = none ∧ Hid (Bq w wx r F 4611686018427387904))
  case first =>
    by_cases h0 : d = 0
    · have h0n : ¬ ((0 : Int) < (d : Int)) := by omega
      have eF : F = -4611686018427387904 := by rw [HF.out, if_pos h0]
      have eO : oF = none := by rw [HO.out, if_pos h0]
      have HH0 : Hid (d = 0) := h0
      have hsz : (w.alloc (.cells #[.int .i64 0, .int .i64 0] 66)).heap.size = r + 1 := by rw [World.size_alloc, hr]
      have K1 : Hid (Bq w W0 r F 4611686018427387904) := by rw [eF]; exact K0
      clear h0 eF HA HF HO HC HD
      go_wp2
      go_meet
      case rel => exact ⟨by simp, rfl, by simp, eO, K1⟩
    · have h0I : (0 : Int) < (d : Int) := by omega
      have eF : Hid (F = F1) := by show _ = _; rw [HF.out, if_neg h0]
      have eO : Hid (oF = o1) := by show _ = _; rw [HO.out, if_neg h0]
      have c := HC.out W0 K0.out.t K0.out.o
      clear HF HO HC HD
      go_wp2_with (go_at_call 96; refine Stop.mk ?_)
      refine Stop.out (c.mono ?_)
      rintro e W1 ⟨v, rfl, hvv, hb⟩
      have K1 : Hid (Bq w W1 r (-4611686018427387904) 4611686018427387904) := K0.out.on hb
      have HV : Hid (PErr W1 v o1) := hvv
      clear hb K0 c hvv
      cases o1 with
      | some x =>
        have HR : Hid (((0 : Int), (0 : Int)) = (A, B) ∧ some x = o) := by
          have := HA.out
          rw [if_pos (by rw [eO.out]; simp), eO.out] at this
          exact ⟨(Prod.mk.inj this).1, (Prod.mk.inj this).2⟩
        obtain ⟨g, rfl, _⟩ := HV.out
        go_upto_region 4 with fail
        have hb2 := (Below.refl W1.heap.size W1).alloc (Nat.le_refl _) (.cells #[.int .i64 F1, .int .i64 L1] 66)
        have K2 : Hid (Bq w (W1.alloc (.cells #[.int .i64 F1, .int .i64 L1] 66)) r (-4611686018427387904) 4611686018427387904) := K1.out.on hb2
        have HV2 : Hid (PErr (W1.alloc (.cells #[.int .i64 F1, .int .i64 L1] 66)) _ (some x)) := HV.out.next hb2
        generalize W1.alloc (.cells #[.int .i64 F1, .int .i64 L1] 66) = W2 at *
        have z0 := K2.out.z.cell (i := 0) (by omega)
        have z1 := K2.out.z.cell (i := 1) (by omega)
        have zf := fun i => K2.out.z.frozen i
        have Z0 : W2.cell? ⟨r, 0, none⟩ = some (.int .i64 0) := z0
        have Z1 : W2.cell? ⟨r, 1, none⟩ = some (.int .i64 0) := z1
        clear z0 z1 hb2 HV K1 HA
        go_wp2
        refine bodyPost_ret (v := .tuple #[.agg #[.int .i64 A, .int .i64 B], .iface 88 (.pointer (some ⟨g, 0, none⟩))]) ?_ rfl ⟨_, rfl, ?_, ?_⟩
        · obtain ⟨h1, h2⟩ := HR.out
          obtain ⟨rfl, rfl⟩ := Prod.mk.inj h1
          simp [results, Tryz.results95, go_sem, Z0, Z1]
        · rw [← HR.out.2]
          exact HV2.out.two Z0 _ _
        · rw [hr]
          exact (K2.out.b.setCell (p := ⟨r, 0, none⟩) (Nat.le_refl _) _).setCell (p := ⟨r, 1, none⟩) (Nat.le_refl _) _
      | none =>
        obtain rfl : v = .nilIface := HV.out
        go_upto_region 4 with fail
        have hb2 := (Below.refl W1.heap.size W1).alloc (Nat.le_refl _) (.cells #[.int .i64 F1, .int .i64 L1] 66)
        have K2 : Hid (Bq w (W1.alloc (.cells #[.int .i64 F1, .int .i64 L1] 66)) r (-4611686018427387904) 4611686018427387904) := K1.out.on hb2
        have R2 : Hid ((W1.alloc (.cells #[.int .i64 F1, .int .i64 L1] 66)).rowIs W1.heap.size 66 2 (f2I F1 L1)) := World.rowIs_alloc W1 _ 66 _ (row_lit _)
        have hlt : r + 1 < W1.heap.size := K1.out.s.lt
        generalize W1.alloc (.cells #[.int .i64 F1, .int .i64 L1] 66) = W2 at *
        generalize W1.heap.size = q at *
        have z0 : W2.cell? ⟨q, 0, none⟩ = some (.int .i64 F1) := R2.out.cell (i := 0) (by omega)
        have y0 : W2.cell? ⟨r + 1, 0, none⟩ = some (.int .i64 (-4611686018427387904)) := K2.out.s.cell (i := 0) (by omega)
        have yf := fun i => K2.out.s.frozen i
        have eO' : oF = none := eO.out
        have K3 : Hid (Bq w (W2.setCell ⟨r + 1, 0, none⟩ (.int .i64 F1)) r F 4611686018427387904) := by
          rw [eF.out]
          exact K2.out.put h5 0 F1 _ _ (.inl ⟨rfl, rfl, rfl⟩)
        clear hb2 HV K1 HA eO
        go_wp2
        go_meet
        case rel => exact ⟨by simp, rfl, by simp, eO', K3⟩
  case rest =>
  obtain ⟨rfl, rfl, rfl, hoF, K⟩ := hcut
  subst hoF
  have HA1 : Hid ((if d + 1 = s.size then ((F, (4611686018427387904 : Int)), (none : Option (Int × Int))) else if o2 ≠ none then ((0, 0), o2) else if L2 < F then ((0, 0), some (((d + 1 : Nat) : Int), 101)) else ((F, L2), none)) = ((A, B), o)) := by
    have := HA.out
    rw [if_neg (by simp)] at this
    exact this
  clear HA HF HO HC K0
  have hz0 := K.out.z.cell (i := 0) (by omega)
  have hz1 := K.out.z.cell (i := 1) (by omega)
  have hs0 := K.out.s.cell (i := 0) (by omega)
  have hs1 := K.out.s.cell (i := 1) (by omega)
  have Z0 : wc.cell? ⟨r, 0, none⟩ = some (.int .i64 0) := hz0
  have Z1 : wc.cell? ⟨r, 1, none⟩ = some (.int .i64 0) := hz1
  have S0 : wc.cell? ⟨r + 1, 0, none⟩ = some (.int .i64 F) := hs0
  have S1 : wc.cell? ⟨r + 1, 1, none⟩ = some (.int .i64 4611686018427387904) := hs1
  have zf := fun i => K.out.z.frozen i
  clear hz0 hz1 hs0 hs1
  by_cases he : d + 1 = s.size
  · have heI : ((d : Int) + 1 == (s.size : Int)) = true := by simp; omega
    have HR : Hid (((F, (4611686018427387904 : Int)), (none : Option (Int × Int))) = ((A, B), o)) := by have := HA1.out; rw [if_pos he] at this; exact this
    have HE : Hid (d + 1 = s.size) := he
    clear HA1 he HD
    go_wp2
    refine bodyPost_ret (v := .tuple #[.agg #[.int .i64 A, .int .i64 B], .nilIface]) ?_ rfl ⟨_, rfl, ?_, ?_⟩
    · obtain ⟨h1, h2⟩ := Prod.mk.inj HR.out
      obtain ⟨rfl, rfl⟩ := Prod.mk.inj h1
      simp [results, Tryz.results95, go_sem, Z0, Z1]
    · rw [← (Prod.mk.inj HR.out).2]; rfl
    · rw [hr]
      exact (K.out.b.setCell (p := ⟨r, 0, none⟩) (Nat.le_refl _) _).setCell (p := ⟨r, 1, none⟩) (Nat.le_refl _) _
  · have heI : ((d : Int) + 1 == (s.size : Int)) = false := by simp; omega
    have HA2 : Hid ((if o2 ≠ none then ((0, 0), o2) else if L2 < F then ((0, 0), some (((d + 1 : Nat) : Int), 101)) else ((F, L2), none)) = ((A, B), o)) := by have := HA1.out; rw [if_neg he] at this; exact this
    have HE : Hid (¬ d + 1 = s.size) := he
    have c := HD.out wc K.out.t K.out.o
    clear HA1 he HD
    go_wp2_with (go_at_call 96; refine Stop.mk ?_)
    refine Stop.out (c.mono ?_)
    rintro e W1 ⟨v, rfl, hvv, hb⟩
    have K1 : Hid (Bq w W1 r F 4611686018427387904) := K.out.on hb
    have HV : Hid (PErr W1 v o2) := hvv
    clear hb K c hvv Z0 Z1 S0 S1 zf
    have go : ∀ W : World, W1.alloc (.cells #[.int .i64 F2, .int .i64 L2] 66) = W → Bq w W r F 4611686018427387904 ∧ PErr W v o2 ∧ W.rowIs W1.heap.size 66 2 (f2I F2 L2) := fun W h => by
      have hb2 := (Below.refl W1.heap.size W1).alloc (Nat.le_refl _) (.cells #[.int .i64 F2, .int .i64 L2] 66)
      rw [← h]
      exact ⟨K1.out.on hb2, HV.out.next hb2, World.rowIs_alloc W1 _ 66 _ (row_lit _)⟩
    have hlt : r + 1 < W1.heap.size := K1.out.s.lt
    obtain ⟨W2, hW2⟩ : ∃ W2, W1.alloc (.cells #[.int .i64 F2, .int .i64 L2] 66) = W2 := ⟨_, rfl⟩
    obtain ⟨k2, v2, r2⟩ := go W2 hW2
    have K2 : Hid (Bq w W2 r F 4611686018427387904) := k2
    have HV2 : Hid (PErr W2 v o2) := v2
    have R2 : Hid (W2.rowIs W1.heap.size 66 2 (f2I F2 L2)) := r2
    clear go k2 v2 r2 K1
    cases o2 with
    | some x =>
      have HR : Hid ((((0 : Int), (0 : Int)), some x) = ((A, B), o)) := by have := HA2.out; rw [if_pos (by simp)] at this; exact this
      obtain ⟨g, rfl, _⟩ := HV.out
      clear HA2 HV
      go_upto_region 11 with fail
      have Z0 : W2.cell? ⟨r, 0, none⟩ = some (.int .i64 0) := K2.out.z.cell (i := 0) (by omega)
      have Z1 : W2.cell? ⟨r, 1, none⟩ = some (.int .i64 0) := K2.out.z.cell (i := 1) (by omega)
      have zf := fun i => K2.out.z.frozen i
      clear hW2 R2
      go_wp2
      refine bodyPost_ret (v := .tuple #[.agg #[.int .i64 A, .int .i64 B], .iface 88 (.pointer (some ⟨g, 0, none⟩))]) ?_ rfl ⟨_, rfl, ?_, ?_⟩
      · obtain ⟨h1, h2⟩ := Prod.mk.inj HR.out
        obtain ⟨rfl, rfl⟩ := Prod.mk.inj h1
        simp [results, Tryz.results95, go_sem, Z0, Z1]
      · rw [← (Prod.mk.inj HR.out).2]
        exact HV2.out.two Z0 _ _
      · rw [hr]
        exact (K2.out.b.setCell (p := ⟨r, 0, none⟩) (Nat.le_refl _) _).setCell (p := ⟨r, 1, none⟩) (Nat.le_refl _) _
    | none =>
      obtain rfl : v = .nilIface := HV.out
      have HA3 : Hid ((if L2 < F then (((0 : Int), (0 : Int)), some (((d + 1 : Nat) : Int), (101 : Int))) else ((F, L2), none)) = ((A, B), o)) := by have := HA2.out; rw [if_neg (by simp)] at this; exact this
      clear HA2 HV HV2
      go_upto_region 11 with fail
      have Z0 : W2.cell? ⟨r, 0, none⟩ = some (.int .i64 0) := K2.out.z.cell (i := 0) (by omega)
      have Z1 : W2.cell? ⟨r, 1, none⟩ = some (.int .i64 0) := K2.out.z.cell (i := 1) (by omega)
      have S0 : W2.cell? ⟨r + 1, 0, none⟩ = some (.int .i64 F) := K2.out.s.cell (i := 0) (by omega)
      have S1 : W2.cell? ⟨r + 1, 1, none⟩ = some (.int .i64 4611686018427387904) := K2.out.s.cell (i := 1) (by omega)
      have zf := fun i => K2.out.z.frozen i
      have sf := fun i => K2.out.s.frozen i
      have y1 : W2.cell? ⟨W1.heap.size, 1, none⟩ = some (.int .i64 L2) := R2.out.cell (i := 1) (by omega)
      generalize W1.heap.size = q at *
      clear hW2 R2
      by_cases hl : L2 < F
      · have HR : Hid ((((0 : Int), (0 : Int)), some (((d + 1 : Nat) : Int), (101 : Int))) = ((A, B), o)) := by have := HA3.out; rw [if_pos hl] at this; exact this
        have c46 := fun W => refusal_any ((d : Int) + 1) 101 W
        clear HA3
        go_wp2_with (go_at_call 46; refine Stop.mk ?_)
        refine Stop.out ((c46 _).mono ?_)
        rintro e W3 ⟨v3, rfl, hv3, hb3⟩
        have K3 : Hid (Bq w W3 r F 4611686018427387904) := K2.out.on hb3
        have HV3 : Hid (PErr W3 v3 (some ((d : Int) + 1, 101))) := hv3
        obtain ⟨g, rfl, _⟩ := hv3
        clear hb3 K2 c46 Z0 Z1 S0 S1 zf sf y1
        have Z0 : W3.cell? ⟨r, 0, none⟩ = some (.int .i64 0) := K3.out.z.cell (i := 0) (by omega)
        have Z1 : W3.cell? ⟨r, 1, none⟩ = some (.int .i64 0) := K3.out.z.cell (i := 1) (by omega)
        have zf := fun i => K3.out.z.frozen i
        go_wp2
        refine bodyPost_ret (v := .tuple #[.agg #[.int .i64 A, .int .i64 B], .iface 88 (.pointer (some ⟨g, 0, none⟩))]) ?_ rfl ⟨_, rfl, ?_, ?_⟩
        · obtain ⟨h1, h2⟩ := Prod.mk.inj HR.out
          obtain ⟨rfl, rfl⟩ := Prod.mk.inj h1
          simp [results, Tryz.results95, go_sem, Z0, Z1]
        · rw [← (Prod.mk.inj HR.out).2, show ((d + 1 : Nat) : Int) = (d : Int) + 1 by omega]
          exact HV3.out.two Z0 _ _
        · rw [hr]
          exact (K3.out.b.setCell (p := ⟨r, 0, none⟩) (Nat.le_refl _) _).setCell (p := ⟨r, 1, none⟩) (Nat.le_refl _) _
      · have HR : Hid (((F, L2), (none : Option (Int × Int))) = ((A, B), o)) := by have := HA3.out; rw [if_neg hl] at this; exact this
        have hl2 : F ≤ L2 := by omega
        clear HA3
        go_wp2
        refine bodyPost_ret (v := .tuple #[.agg #[.int .i64 A, .int .i64 B], .nilIface]) ?_ rfl ⟨_, rfl, ?_, ?_⟩
        · obtain ⟨h1, h2⟩ := Prod.mk.inj HR.out
          obtain ⟨rfl, rfl⟩ := Prod.mk.inj h1
          simp [results, Tryz.results95, go_sem, Z0, Z1]
        · rw [← (Prod.mk.inj HR.out).2]; rfl
        · rw [hr]
          exact (((K2.out.b.setCell (p := ⟨r + 1, 1, none⟩) (by show r ≤ r + 1; omega) _).setCell (p := ⟨r, 0, none⟩) (Nat.le_refl _) _)).setCell (p := ⟨r, 1, none⟩) (Nat.le_refl _) _
end Go.Proofs.YtehgeninocbpeaaGreatDoor.Tm
