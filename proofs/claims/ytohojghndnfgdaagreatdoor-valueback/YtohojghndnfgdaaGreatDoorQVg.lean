import Derived.Test.YtohojghndnfgdaaGreatDoorQVd
import Derived.Test.YtohojghndnfgdaaGreatDoorQVe
import Derived.Deep.RegionHeld3
import Derived.Deep.Cut
/-
  DERIVED. PrintMoment, by the program.
-/
namespace Go.Proofs.YtohojghndnfgdaaGreatDoor.Tm
open Go Go.Proofs Go.RowKit


def dX (y m d dp : Nat) : ByteArray := (txt y m d).extract 0 (2 + 2 * dp)
theorem Bn.drew {w W : World} {q y m d : Nat} (H : Bn w W q y m d) : Bn w W.drew q y m d := ⟨H.pow, H.q0, H.q1, H.q2, H.bel.drew⟩

set_option maxRecDepth 100000 in
set_option maxHeartbeats 2000000 in
theorem text29_1 (w : World) (y m d : Nat) (hy : y ≤ 9999) (hm : m ≤ 99) (hd : d ≤ 99) (hp : Pow w) :
    Calls Tryz.prog 18 #[dv y m d, .int .i64 1] w fun e w' => e = .returned (.string (dX y m d 1)) ∧ Below w.heap.size w w' := by
  obtain ⟨W, hW⟩ : ∃ W, w.alloc (.cells #[.int .i64 (y : Int), .int .i64 (m : Int), .int .i64 (d : Int)] 23) = W := ⟨_, rfl⟩
  have hb : Below w.heap.size w W := hW ▸ (Below.refl _ _).alloc (Nat.le_refl _) _
  have b0 : Bn w W w.heap.size y m d := ⟨hp.on hb, by rw [← hW]; simp, by rw [← hW]; simp, by rw [← hW]; simp, hb⟩
  have b1 : Bn w W.drew w.heap.size y m d := b0.drew
  have q0 := b0.q0
  have q1 := b0.q1
  have q2 := b0.q2
  have hY : Fit6 (y : Int) 4 := ⟨y, 4, rfl, rfl, by omega, by omega, by omega, by omega⟩
  have hM : Fit6 (m : Int) 2 := ⟨m, 2, rfl, rfl, by omega, by omega, by omega, by omega⟩
  have hD : Fit6 (d : Int) 2 := ⟨d, 2, rfl, rfl, by omega, by omega, by omega, by omega⟩
  have c53 : ∀ W' nI kI, Fit6 nI kI → Pow W' → Calls Tryz.prog 39 #[.int .i64 nI, .int .i64 kI] W' fun e w' => e = .returned (.string (pdB nI.toNat kI.toNat)) ∧ Below W'.heap.size W' w' := by
    rintro W' _ _ ⟨n, k, rfl, rfl, h1, h2, h3, h4⟩ hP
    exact padded6_any W' n k h1 h2 h3 h4 hP
  have hz4 : (pdB y 4).size = 4 := pdB_size _ _
  have hz2 : (pdB m 2).size = 2 := pdB_size _ _
  have hz3 : (pdB d 2).size = 2 := pdB_size _ _
  have hE : pdB y 4 ++ pdB m 2 ++ pdB d 2 = txt y m d := rfl
  have hZ : (txt y m d).size = 8 := txt_size y m d
  unfold dX
  generalize txt y m d = E at *
  clear hp hy hm hd
  unfold dv
  go_enter Tryz.func18, Tryz.ntmps18
  go_wp2
  have hB := b1
  clear b0 b1
  go_region_held3 (fun w' => w'.cell? ⟨w.heap.size, 0, none⟩ = some (.int .i64 (y : Int)) ∧ w'.cell? ⟨w.heap.size, 1, none⟩ = some (.int .i64 (m : Int)) ∧ w'.cell? ⟨w.heap.size, 2, none⟩ = some (.int .i64 (d : Int))) (exact ⟨hB.q0, hB.q1, hB.q2⟩) (first | (go_at_call 39; refine (c53 _ _ _ ?_ ?_).mono ?_; (focus (first | exact hY | exact hM | exact hD)); (focus exact hB.pow); rintro e W6 ⟨rfl, hb6⟩; replace hB := hB.next hb6))
  all_goals
    have b9 := hB.bel
    clear c53 hB
    go_wp2
    go_ret
    exact ⟨rfl, b9⟩

set_option maxRecDepth 100000 in
set_option maxHeartbeats 2000000 in
theorem text29_2 (w : World) (y m d : Nat) (hy : y ≤ 9999) (hm : m ≤ 99) (hd : d ≤ 99) (hp : Pow w) :
    Calls Tryz.prog 18 #[dv y m d, .int .i64 2] w fun e w' => e = .returned (.string (dX y m d 2)) ∧ Below w.heap.size w w' := by
  obtain ⟨W, hW⟩ : ∃ W, w.alloc (.cells #[.int .i64 (y : Int), .int .i64 (m : Int), .int .i64 (d : Int)] 23) = W := ⟨_, rfl⟩
  have hb : Below w.heap.size w W := hW ▸ (Below.refl _ _).alloc (Nat.le_refl _) _
  have b0 : Bn w W w.heap.size y m d := ⟨hp.on hb, by rw [← hW]; simp, by rw [← hW]; simp, by rw [← hW]; simp, hb⟩
  have b1 : Bn w W.drew w.heap.size y m d := b0.drew
  have q0 := b0.q0
  have q1 := b0.q1
  have q2 := b0.q2
  have hY : Fit6 (y : Int) 4 := ⟨y, 4, rfl, rfl, by omega, by omega, by omega, by omega⟩
  have hM : Fit6 (m : Int) 2 := ⟨m, 2, rfl, rfl, by omega, by omega, by omega, by omega⟩
  have hD : Fit6 (d : Int) 2 := ⟨d, 2, rfl, rfl, by omega, by omega, by omega, by omega⟩
  have c53 : ∀ W' nI kI, Fit6 nI kI → Pow W' → Calls Tryz.prog 39 #[.int .i64 nI, .int .i64 kI] W' fun e w' => e = .returned (.string (pdB nI.toNat kI.toNat)) ∧ Below W'.heap.size W' w' := by
    rintro W' _ _ ⟨n, k, rfl, rfl, h1, h2, h3, h4⟩ hP
    exact padded6_any W' n k h1 h2 h3 h4 hP
  have hz4 : (pdB y 4).size = 4 := pdB_size _ _
  have hz2 : (pdB m 2).size = 2 := pdB_size _ _
  have hz3 : (pdB d 2).size = 2 := pdB_size _ _
  have hE : pdB y 4 ++ pdB m 2 ++ pdB d 2 = txt y m d := rfl
  have hZ : (txt y m d).size = 8 := txt_size y m d
  unfold dX
  generalize txt y m d = E at *
  clear hp hy hm hd
  unfold dv
  go_enter Tryz.func18, Tryz.ntmps18
  go_wp2
  have hB := b1
  clear b0 b1
  go_region_held3 (fun w' => w'.cell? ⟨w.heap.size, 0, none⟩ = some (.int .i64 (y : Int)) ∧ w'.cell? ⟨w.heap.size, 1, none⟩ = some (.int .i64 (m : Int)) ∧ w'.cell? ⟨w.heap.size, 2, none⟩ = some (.int .i64 (d : Int))) (exact ⟨hB.q0, hB.q1, hB.q2⟩) (first | (go_at_call 39; refine (c53 _ _ _ ?_ ?_).mono ?_; (focus (first | exact hY | exact hM | exact hD)); (focus exact hB.pow); rintro e W6 ⟨rfl, hb6⟩; replace hB := hB.next hb6))
  all_goals
    have b9 := hB.bel
    clear c53 hB
    go_wp2
    go_ret
    exact ⟨rfl, b9⟩

theorem text29_3 (w : World) (y m d : Nat) (hy : y ≤ 9999) (hm : m ≤ 99) (hd : d ≤ 99) (hp : Pow w) :
    Calls Tryz.prog 18 #[dv y m d, .int .i64 3] w fun e w' => e = .returned (.string (dX y m d 3)) ∧ Below w.heap.size w w' := by
  have hX : dX y m d 3 = txt y m d := by
    unfold dX
    apply ByteArray.ext
    rw [ByteArray.data_extract]
    have : (txt y m d).data.size = 8 := txt_size y m d
    rw [show 2 + 2 * 3 = 8 by omega, ← this]
    simp
  rw [hX]
  exact text_any w y m d hy hm hd hp
theorem text29_any (w : World) (y m d dp : Nat) (hy : y ≤ 9999) (hm : m ≤ 99) (hd : d ≤ 99) (h1 : 1 ≤ dp) (h3 : dp ≤ 3) (hp : Pow w) :
    Calls Tryz.prog 18 #[dv y m d, .int .i64 (dp : Int)] w fun e w' => e = .returned (.string (dX y m d dp)) ∧ Below w.heap.size w w' := by
  rcases (by omega : dp = 1 ∨ dp = 2 ∨ dp = 3) with rfl | rfl | rfl
  · exact text29_1 w y m d hy hm hd hp
  · exact text29_2 w y m d hy hm hd hp
  · exact text29_3 w y m d hy hm hd hp

def zX (z : Int) : ByteArray := (if z < 0 then ⟨#[45]⟩ else ⟨#[43]⟩) ++ pdB (z.natAbs / 60) 2 ++ pdB (z.natAbs % 60) 2

set_option maxRecDepth 100000 in
set_option maxHeartbeats 2000000 in
theorem zone50_any (w : World) (z : Int) (h1 : -720 ≤ z) (h2 : z ≤ 840) (hp : Pow w) : Calls Tryz.prog 19 #[.int .i64 z] w fun e w' => e = .returned (.string (zX z)) ∧ Below w.heap.size w w' := by
  have c53 : ∀ (W' : World) (n : Nat), n ≤ 99 → Pow W' → Calls Tryz.prog 39 #[.int .i64 (n : Int), .int .i64 2] W' fun e w' => e = .returned (.string (pdB n 2)) ∧ Below W'.heap.size W' w' := fun W' n hn hP => padded6_any W' n 2 (by omega) (by omega) (by omega) (by omega) hP
  unfold zX
  by_cases hz : z < 0
  · rw [if_pos hz]
    obtain ⟨a, ha⟩ : ∃ a, z.natAbs / 60 = a := ⟨_, rfl⟩
    obtain ⟨b, hb⟩ : ∃ b, z.natAbs % 60 = b := ⟨_, rfl⟩
    rw [ha, hb]
    have hzI : decide (z < 0) = true := by simpa using hz
    have haI : (- z) / 60 = (a : Int) := by omega
    have hbI : (- z) % 60 = (b : Int) := by omega
    have hn0 : 0 ≤ - z := by omega
    have hn1 : - z ≤ 720 := by omega
    have z1 : (pdB a 2).size = 2 := pdB_size _ _
    have z2 : (pdB b 2).size = 2 := pdB_size _ _
    have z3 : ((⟨#[45]⟩ : ByteArray) ++ pdB a 2).size = 3 := by rw [ByteArray.size_append, z1]; rfl
    have ca := fun W' h => c53 W' a (by omega) h
    have cb := fun W' h => c53 W' b (by omega) h
    clear c53 ha hb hz
    obtain ⟨n, hn⟩ : ∃ n : Int, - z = n := ⟨_, rfl⟩
    rw [hn] at haI hbI hn0 hn1
    go_enter Tryz.func19, Tryz.ntmps19
    go_wp2_with (go_at_call 39; refine Stop.mk ?_)
    refine Stop.out ((ca _ hp).mono ?_)
    rintro e W2 ⟨rfl, hb2⟩
    have HB2 : Hid (Below w.heap.size w W2) := hb2
    have cb' := cb W2 (hp.on hb2)
    clear hb2 ca cb
    go_wp2_with (go_at_call 39; refine Stop.mk ?_)
    refine Stop.out (cb'.mono ?_)
    rintro e W3 ⟨rfl, hb3⟩
    have HB3 : Hid (Below w.heap.size w W3) := HB2.out.trans (hb3.mono HB2.out.size)
    clear hb3 cb'
    go_wp2
    go_ret
    exact ⟨rfl, HB3.out⟩
  · rw [if_neg hz]
    obtain ⟨a, ha⟩ : ∃ a, z.natAbs / 60 = a := ⟨_, rfl⟩
    obtain ⟨b, hb⟩ : ∃ b, z.natAbs % 60 = b := ⟨_, rfl⟩
    rw [ha, hb]
    have hzI : decide (z < 0) = false := by simpa using hz
    have haI : z / 60 = (a : Int) := by omega
    have hbI : z % 60 = (b : Int) := by omega
    have hn0 : 0 ≤ z := by omega
    have z1 : (pdB a 2).size = 2 := pdB_size _ _
    have z2 : (pdB b 2).size = 2 := pdB_size _ _
    have z3 : ((⟨#[43]⟩ : ByteArray) ++ pdB a 2).size = 3 := by rw [ByteArray.size_append, z1]; rfl
    have ca := fun W' h => c53 W' a (by omega) h
    have cb := fun W' h => c53 W' b (by omega) h
    clear c53 ha hb hz
    go_enter Tryz.func19, Tryz.ntmps19
    go_wp2_with (go_at_call 39; refine Stop.mk ?_)
    refine Stop.out ((ca _ hp).mono ?_)
    rintro e W2 ⟨rfl, hb2⟩
    have HB2 : Hid (Below w.heap.size w W2) := hb2
    have cb' := cb W2 (hp.on hb2)
    clear hb2 ca cb
    go_wp2_with (go_at_call 39; refine Stop.mk ?_)
    refine Stop.out (cb'.mono ?_)
    rintro e W3 ⟨rfl, hb3⟩
    have HB3 : Hid (Below w.heap.size w W3) := HB2.out.trans (hb3.mono HB2.out.size)
    clear hb3 cb'
    go_wp2
    go_ret
    exact ⟨rfl, HB3.out⟩

theorem mN_is (y m d dp h mi sc mc p : Int) (zd : Bool) (z : Int) : mN y m d dp h mi sc mc p zd z = -1 ∨ (0 ≤ mN y m d dp h mi sc mc p zd z ∧ mN y m d dp h mi sc mc p zd z ≤ 4) := by
  unfold mN
  split
  · omega
  · split
    · omega
    · split
      · omega
      · split <;> omega
/-- What a moment that may be is. -/
theorem mN_ok {y m d dp h mi sc mc p : Int} {zd : Bool} {z : Int} (hu : mN y m d dp h mi sc mc p zd z = -1) :
    ∃ yn mn dn dpn hn min sn cn pn : Nat, y = yn ∧ m = mn ∧ d = dn ∧ dp = dpn ∧ h = hn ∧ mi = min ∧ sc = sn ∧ mc = cn ∧ p = pn ∧ yn ≤ 9999 ∧ mn ≤ 99 ∧ dn ≤ 99 ∧ 1 ≤ dpn ∧ dpn ≤ 3 ∧ hn ≤ 99 ∧ min ≤ 99 ∧ sn ≤ 99 ∧ cn ≤ 999999 ∧ pn ≤ 9 ∧ (zd = true → -720 ≤ z ∧ z ≤ 840) ∧ (pn ≠ 0 ∨ (hn = 0 ∧ min = 0 ∧ sn = 0 ∧ cn = 0)) := by
  unfold mN at hu
  split at hu
  · cases hu
  · rename_i h1
    split at hu
    · cases hu
    · rename_i h2
      split at hu
      · cases hu
      · rename_i h3
        split at hu
        · cases hu
        · rename_i h4
          have hday : uf y m d = -1 := by
            by_cases h : uf y m d = -1
            · exact h
            · exact absurd (.inl h) h1
          obtain ⟨yn, mn, dn, rfl, rfl, rfl, hd⟩ := isDay_of hday
          obtain ⟨d1, d2, d3, d4, d5, d6⟩ := hd
          have hmd := md_le yn mn
          have hz : zd = true → -720 ≤ z ∧ z ≤ 840 := fun hzd => by
            by_cases hr : -720 ≤ z ∧ z ≤ 840
            · exact hr
            · exact absurd (.inl ⟨hzd, hr⟩) h4
          by_cases ht : h = 0 ∧ mi = 0 ∧ sc = 0 ∧ mc = 0 ∧ p = 0
          · obtain ⟨rfl, rfl, rfl, rfl, rfl⟩ := ht
            exact ⟨yn, mn, dn, dp.toNat, 0, 0, 0, 0, 0, rfl, rfl, rfl, by omega, rfl, rfl, rfl, rfl, rfl, by omega, by omega, by omega, by omega, by omega, by omega, by omega, by omega, by omega, by omega, hz, .inr ⟨rfl, rfl, rfl, rfl⟩⟩
          · have htn : tN h mi sc mc p = -1 := by
              by_cases h5 : tN h mi sc mc p = -1
              · exact h5
              · exact absurd ⟨ht, .inr h5⟩ h3
            obtain ⟨hn, min, sn, cn, pn, rfl, rfl, rfl, rfl, rfl, b1, b2, b3, b4, b5, b6⟩ := tN_ok htn
            exact ⟨yn, mn, dn, dp.toNat, hn, min, sn, cn, pn, rfl, rfl, rfl, by omega, rfl, rfl, rfl, rfl, rfl, by omega, by omega, by omega, by omega, by omega, by omega, by omega, by omega, by omega, by omega, hz, .inl (by omega)⟩
def mX (y m d dp h mi sc mc p : Nat) (zd : Bool) (z : Int) : ByteArray := dX y m d dp ++ tT h mi sc mc p ++ (if zd = true then zX z else ⟨#[]⟩)
def mW (y m d dp h mi sc mc p : Int) (zd : Bool) (z : Int) : ByteArray := if mN y m d dp h mi sc mc p zd z = -1 then mX y.toNat m.toNat d.toNat dp.toNat h.toNat mi.toNat sc.toNat mc.toNat p.toNat zd z else ⟨#[]⟩
def mO (y m d dp h mi sc mc p : Int) (zd : Bool) (z : Int) : Option (Int × Int) := if mN y m d dp h mi sc mc p zd z = -1 then none else some (mN y m d dp h mi sc mc p zd z, 102)
theorem dX_size (y m d dp : Nat) (h : dp ≤ 3) : (dX y m d dp).size = 2 + 2 * dp := by unfold dX; rw [ByteArray.size_extract, txt_size]; omega
theorem tT_size (h m s c p : Nat) (hp : p ≤ 9) : (tT h m s c p).size ≤ 13 := by
  unfold tT
  split
  · rw [ByteArray.size_extract, tx6_size]; omega
  · rw [ByteArray.size_append, ByteArray.size_append, tx6_size, ByteArray.size_extract, pdB_size]
    show 6 + 1 + _ ≤ 13
    omega
theorem zX_size (z : Int) : (zX z).size = 5 := by
  unfold zX
  rw [ByteArray.size_append, ByteArray.size_append, pdB_size, pdB_size]
  split <;> rfl

structure MPw (w W : World) (f : Nat → Value) : Prop where
  r : W.rowIs w.heap.size 35 11 f
  p : Pow W
  b : Below w.heap.size w W
theorem MPw.on {w W W' : World} {f : Nat → Value} (h : MPw w W f) (hb : Below W.heap.size W W') : MPw w W' f := ⟨row_on h.r hb, h.p.on hb, h.b.trans (hb.mono h.b.size)⟩
theorem app_nil (a : ByteArray) : a ++ (⟨#[]⟩ : ByteArray) = a := by
  apply ByteArray.ext
  rw [ByteArray.data_append]
  simp

set_option maxRecDepth 100000 in
set_option maxHeartbeats 2000000 in
theorem prt22_t (w : World) (y m d dp h mi sc mc p : Int) (z : Int) (hT : Mt w) (hO : Ot w) (hp : Pow w) : Calls Tryz.prog 8 #[mv y m d dp h mi sc mc p true z] w (PostR w (.string (mW y m d dp h mi sc mc p true z)) (mO y m d dp h mi sc mc p true z)) := by
  obtain ⟨W, hW⟩ : ∃ W, w.alloc (.cells #[.int .i64 y, .int .i64 m, .int .i64 d, .int .i64 dp, .int .i64 h, .int .i64 mi, .int .i64 sc, .int .i64 mc, .int .i64 p, .bool true, .int .i64 z] 35) = W := ⟨_, rfl⟩
  have HB : Hid (Below w.heap.size w W) := hW ▸ (Below.refl _ _).alloc (Nat.le_refl _) _
  have HRW : Hid (W.rowIs w.heap.size 35 11 (mf y m d dp h mi sc mc p true z)) := by
    show W.rowIs _ _ _ _
    rw [← hW]; exact World.rowIs_alloc w _ 35 _ (row_lit _)
  have q0 : W.cell? ⟨w.heap.size, 0, none⟩ = some (.int .i64 y) := HRW.out.cell (i := 0) (by omega)
  have q1 : W.cell? ⟨w.heap.size, 1, none⟩ = some (.int .i64 m) := HRW.out.cell (i := 1) (by omega)
  have q2 : W.cell? ⟨w.heap.size, 2, none⟩ = some (.int .i64 d) := HRW.out.cell (i := 2) (by omega)
  have q3 : W.cell? ⟨w.heap.size, 3, none⟩ = some (.int .i64 dp) := HRW.out.cell (i := 3) (by omega)
  have q4 : W.cell? ⟨w.heap.size, 4, none⟩ = some (.int .i64 h) := HRW.out.cell (i := 4) (by omega)
  have q5 : W.cell? ⟨w.heap.size, 5, none⟩ = some (.int .i64 mi) := HRW.out.cell (i := 5) (by omega)
  have q6 : W.cell? ⟨w.heap.size, 6, none⟩ = some (.int .i64 sc) := HRW.out.cell (i := 6) (by omega)
  have q7 : W.cell? ⟨w.heap.size, 7, none⟩ = some (.int .i64 mc) := HRW.out.cell (i := 7) (by omega)
  have q8 : W.cell? ⟨w.heap.size, 8, none⟩ = some (.int .i64 p) := HRW.out.cell (i := 8) (by omega)
  have q9 : W.cell? ⟨w.heap.size, 9, none⟩ = some (.bool true) := HRW.out.cell (i := 9) (by omega)
  have q10 : W.cell? ⟨w.heap.size, 10, none⟩ = some (.int .i64 z) := HRW.out.cell (i := 10) (by omega)
  have c49 := unfitM_any W y m d dp h mi sc mc p true z (hT.on HB.out) (hO.on HB.out)
  have HP : Hid (Pow W) := hp.on HB.out
  unfold mW mO
  by_cases hu : mN y m d dp h mi sc mc p true z = -1
  · rw [if_pos hu, if_pos hu]
    rw [hu] at c49
    obtain ⟨yn, mn, dn, dpn, hn, min, sn, cn, pn, rfl, rfl, rfl, rfl, rfl, rfl, rfl, rfl, rfl, a1, a2, a3, a4, a5, a6, a7, a8, a9, a10, a11, -⟩ := mN_ok hu
    simp only [Int.toNat_natCast]
    have c29 : ∀ W', Pow W' → _ := fun W' hp' => text29_any W' yn mn dn dpn a1 a2 a3 a4 a5 hp'
    have c44 : ∀ W', Pow W' → _ := fun W' hp' => textT_any W' hn min sn cn pn a6 a7 a8 a9 a10 hp'
    have c50 : ∀ W', Pow W' → _ := fun W' hp' => zone50_any W' z (a11 rfl).1 (a11 rfl).2 hp'
    unfold mX
    rw [if_pos (show true = true from rfl)]
    have s1 := dX_size yn mn dn dpn a5
    have s2 := tT_size hn min sn cn pn a10
    have s3 := zX_size z
    have s1' : (dX yn mn dn dpn).size ≤ 8 := by omega
    have s12 : (dX yn mn dn dpn ++ tT hn min sn cn pn).size ≤ 21 := by rw [ByteArray.size_append]; omega
    generalize dX yn mn dn dpn = DX at *
    generalize tT hn min sn cn pn = TX at *
    generalize zX z = ZX at *
    clear hu a1 a2 a3 a4 a5 a6 a7 a8 a9 a10 a11 hT hO hp s1
    have hc1 : DX.size + TX.size ≤ 9223372036854775807 := by omega
    have hc2 : ¬ (9223372036854775807 < DX.size + TX.size) := by omega
    have hc3 : decide (9223372036854775807 < DX.size + TX.size) = false := by simp; omega
    unfold mv at *
    unfold dv at c29
    unfold t5 at c44
    have H29 : Hid _ := c29
    have H44 : Hid _ := c44
    have H50 : Hid _ := c50
    clear c29 c44 c50
    go_enter Tryz.func8, Tryz.ntmps8
    go_wp2_with (go_at_call 17; refine Stop.mk ?_)
    refine Stop.out (c49.mono ?_)
    rintro e W2 ⟨rfl, hb2⟩
    have hR2 := row_on HRW.out hb2
    have HR2 : Hid (W2.rowIs w.heap.size 35 11 (mf yn mn dn dpn hn min sn cn pn true z)) := hR2
    have HP2 : Hid (Pow W2) := HP.out.on hb2
    have HB2 : Hid (Below w.heap.size w W2) := HB.out.trans (hb2.mono HB.out.size)
    clear c49 hb2 hR2 q0 q1 q2 q3 q4 q5 q6 q7 q8 q9 q10
    have c29 := H29.out
    have c44 := H44.out
    have c50 := H50.out
    clear H29 H44 H50
    have hB : MPw w W2.drew (mf yn mn dn dpn hn min sn cn pn true z) := ⟨HR2.out, HP2.out, HB2.out.drew⟩
    have q0 : W2.cell? ⟨w.heap.size, 0, none⟩ = some (.int .i64 (yn : Int)) := HR2.out.cell (i := 0) (by omega)
    have q1 : W2.cell? ⟨w.heap.size, 1, none⟩ = some (.int .i64 (mn : Int)) := HR2.out.cell (i := 1) (by omega)
    have q2 : W2.cell? ⟨w.heap.size, 2, none⟩ = some (.int .i64 (dn : Int)) := HR2.out.cell (i := 2) (by omega)
    have q3 : W2.cell? ⟨w.heap.size, 3, none⟩ = some (.int .i64 (dpn : Int)) := HR2.out.cell (i := 3) (by omega)
    have q4 : W2.cell? ⟨w.heap.size, 4, none⟩ = some (.int .i64 (hn : Int)) := HR2.out.cell (i := 4) (by omega)
    have q5 : W2.cell? ⟨w.heap.size, 5, none⟩ = some (.int .i64 (min : Int)) := HR2.out.cell (i := 5) (by omega)
    have q6 : W2.cell? ⟨w.heap.size, 6, none⟩ = some (.int .i64 (sn : Int)) := HR2.out.cell (i := 6) (by omega)
    have q7 : W2.cell? ⟨w.heap.size, 7, none⟩ = some (.int .i64 (cn : Int)) := HR2.out.cell (i := 7) (by omega)
    have q8 : W2.cell? ⟨w.heap.size, 8, none⟩ = some (.int .i64 (pn : Int)) := HR2.out.cell (i := 8) (by omega)
    have q9 : W2.cell? ⟨w.heap.size, 9, none⟩ = some (.bool true) := HR2.out.cell (i := 9) (by omega)
    have q10 : W2.cell? ⟨w.heap.size, 10, none⟩ = some (.int .i64 z) := HR2.out.cell (i := 10) (by omega)
    go_wp2
    go_region_held3 (fun w' => (w'.cell? ⟨w.heap.size, 0, none⟩ = some (.int .i64 (yn : Int)) ∧ w'.cell? ⟨w.heap.size, 1, none⟩ = some (.int .i64 (mn : Int)) ∧ w'.cell? ⟨w.heap.size, 2, none⟩ = some (.int .i64 (dn : Int)) ∧ w'.cell? ⟨w.heap.size, 3, none⟩ = some (.int .i64 (dpn : Int))) ∧ w'.cell? ⟨w.heap.size, 4, none⟩ = some (.int .i64 (hn : Int)) ∧ w'.cell? ⟨w.heap.size, 5, none⟩ = some (.int .i64 (min : Int)) ∧ w'.cell? ⟨w.heap.size, 6, none⟩ = some (.int .i64 (sn : Int)) ∧ w'.cell? ⟨w.heap.size, 7, none⟩ = some (.int .i64 (cn : Int)) ∧ w'.cell? ⟨w.heap.size, 8, none⟩ = some (.int .i64 (pn : Int))) (exact ⟨⟨hB.r.cell (i := 0) (by omega), hB.r.cell (i := 1) (by omega), hB.r.cell (i := 2) (by omega), hB.r.cell (i := 3) (by omega)⟩, hB.r.cell (i := 4) (by omega), hB.r.cell (i := 5) (by omega), hB.r.cell (i := 6) (by omega), hB.r.cell (i := 7) (by omega), hB.r.cell (i := 8) (by omega)⟩) (first | (go_at_call 18; refine (c29 _ ?_).mono ?_; (focus exact hB.p); rintro e W6 ⟨rfl, hb6⟩; replace hB := hB.on hb6) | (go_at_call 16; refine (c44 _ ?_).mono ?_; (focus exact hB.p); rintro e W6 ⟨rfl, hb6⟩; replace hB := hB.on hb6))
    all_goals
      clear q0 q1 q2 q3 q4 q5 q6 q7 q8 q9 q10 c29 c44
      have x9 := hB.r.cell (i := 9) (by omega)
      have x10 := hB.r.cell (i := 10) (by omega)
      have HX : Hid _ := hB
      have y9 : _ = some (Value.bool true) := x9
      have y10 : _ = some (Value.int .i64 z) := x10
      have c50' := c50 _ hB.p
      clear hB x9 x10 c50
      go_wp2_with (go_at_call 19; refine Stop.mk ?_)
      refine Stop.out (c50'.mono ?_)
      rintro e W7 ⟨rfl, hb7⟩
      have hbel := (HX.out.on hb7).b
      clear hb7 c50' HX
      go_wp2
      exact bodyPost_ret (v := .tuple #[.string (DX ++ TX ++ ZX), .nilIface]) (by simp [results, Tryz.results8, go_sem]) rfl ⟨_, rfl, rfl, hbel⟩
  · rw [if_neg hu, if_neg hu]
    generalize mN y m d dp h mi sc mc p true z = U at *
    have hUI : (U != -1) = true := by simpa using hu
    have c24 := fun W' => refusal_any U 102 W'
    clear hu hO hp hT HRW
    unfold mv at *
    go_enter Tryz.func8, Tryz.ntmps8
    go_wp2_with (go_at_call 17; refine Stop.mk ?_)
    refine Stop.out (c49.mono ?_)
    rintro e W2 ⟨rfl, hb2⟩
    have HB2 : Hid (Below w.heap.size w W2) := HB.out.trans (hb2.mono HB.out.size)
    clear c49 q0 q1 q2 q3 q4 q5 q6 q7 q8 q9 q10 hb2
    go_wp2_with (go_at_call 15; refine Stop.mk ?_)
    refine Stop.out ((c24 _).mono ?_)
    rintro e W3 ⟨v, rfl, hv, hb3⟩
    have HB3 : Hid (Below w.heap.size w W3) := HB2.out.trans (hb3.mono HB2.out.size)
    have HV : Hid (PErr W3 v (some (U, 102))) := hv
    clear hb3 c24 hv
    go_wp2
    exact bodyPost_ret (v := .tuple #[.string ⟨#[]⟩, v]) (by simp [results, Tryz.results8, go_sem]) rfl ⟨_, rfl, HV.out, HB3.out⟩
set_option maxRecDepth 100000 in
set_option maxHeartbeats 2000000 in
theorem prt22_f (w : World) (y m d dp h mi sc mc p : Int) (z : Int) (hT : Mt w) (hO : Ot w) (hp : Pow w) : Calls Tryz.prog 8 #[mv y m d dp h mi sc mc p false z] w (PostR w (.string (mW y m d dp h mi sc mc p false z)) (mO y m d dp h mi sc mc p false z)) := by
  obtain ⟨W, hW⟩ : ∃ W, w.alloc (.cells #[.int .i64 y, .int .i64 m, .int .i64 d, .int .i64 dp, .int .i64 h, .int .i64 mi, .int .i64 sc, .int .i64 mc, .int .i64 p, .bool false, .int .i64 z] 35) = W := ⟨_, rfl⟩
  have HB : Hid (Below w.heap.size w W) := hW ▸ (Below.refl _ _).alloc (Nat.le_refl _) _
  have HRW : Hid (W.rowIs w.heap.size 35 11 (mf y m d dp h mi sc mc p false z)) := by
    show W.rowIs _ _ _ _
    rw [← hW]; exact World.rowIs_alloc w _ 35 _ (row_lit _)
  have q0 : W.cell? ⟨w.heap.size, 0, none⟩ = some (.int .i64 y) := HRW.out.cell (i := 0) (by omega)
  have q1 : W.cell? ⟨w.heap.size, 1, none⟩ = some (.int .i64 m) := HRW.out.cell (i := 1) (by omega)
  have q2 : W.cell? ⟨w.heap.size, 2, none⟩ = some (.int .i64 d) := HRW.out.cell (i := 2) (by omega)
  have q3 : W.cell? ⟨w.heap.size, 3, none⟩ = some (.int .i64 dp) := HRW.out.cell (i := 3) (by omega)
  have q4 : W.cell? ⟨w.heap.size, 4, none⟩ = some (.int .i64 h) := HRW.out.cell (i := 4) (by omega)
  have q5 : W.cell? ⟨w.heap.size, 5, none⟩ = some (.int .i64 mi) := HRW.out.cell (i := 5) (by omega)
  have q6 : W.cell? ⟨w.heap.size, 6, none⟩ = some (.int .i64 sc) := HRW.out.cell (i := 6) (by omega)
  have q7 : W.cell? ⟨w.heap.size, 7, none⟩ = some (.int .i64 mc) := HRW.out.cell (i := 7) (by omega)
  have q8 : W.cell? ⟨w.heap.size, 8, none⟩ = some (.int .i64 p) := HRW.out.cell (i := 8) (by omega)
  have q9 : W.cell? ⟨w.heap.size, 9, none⟩ = some (.bool false) := HRW.out.cell (i := 9) (by omega)
  have q10 : W.cell? ⟨w.heap.size, 10, none⟩ = some (.int .i64 z) := HRW.out.cell (i := 10) (by omega)
  have c49 := unfitM_any W y m d dp h mi sc mc p false z (hT.on HB.out) (hO.on HB.out)
  have HP : Hid (Pow W) := hp.on HB.out
  unfold mW mO
  by_cases hu : mN y m d dp h mi sc mc p false z = -1
  · rw [if_pos hu, if_pos hu]
    rw [hu] at c49
    obtain ⟨yn, mn, dn, dpn, hn, min, sn, cn, pn, rfl, rfl, rfl, rfl, rfl, rfl, rfl, rfl, rfl, a1, a2, a3, a4, a5, a6, a7, a8, a9, a10, a11, -⟩ := mN_ok hu
    simp only [Int.toNat_natCast]
    have c29 : ∀ W', Pow W' → _ := fun W' hp' => text29_any W' yn mn dn dpn a1 a2 a3 a4 a5 hp'
    have c44 : ∀ W', Pow W' → _ := fun W' hp' => textT_any W' hn min sn cn pn a6 a7 a8 a9 a10 hp'
    unfold mX
    have s1 := dX_size yn mn dn dpn a5
    have s2 := tT_size hn min sn cn pn a10
    have s1' : (dX yn mn dn dpn).size ≤ 8 := by omega
    have s12 : (dX yn mn dn dpn ++ tT hn min sn cn pn).size ≤ 21 := by rw [ByteArray.size_append]; omega
    generalize dX yn mn dn dpn = DX at *
    generalize tT hn min sn cn pn = TX at *
    clear hu a1 a2 a3 a4 a5 a6 a7 a8 a9 a10 a11 hT hO hp s1
    have hc1 : DX.size + TX.size ≤ 9223372036854775807 := by omega
    have hc2 : ¬ (9223372036854775807 < DX.size + TX.size) := by omega
    have hc3 : decide (9223372036854775807 < DX.size + TX.size) = false := by simp; omega
    unfold mv at *
    unfold dv at c29
    unfold t5 at c44
    have H29 : Hid _ := c29
    have H44 : Hid _ := c44
    clear c29 c44
    go_enter Tryz.func8, Tryz.ntmps8
    go_wp2_with (go_at_call 17; refine Stop.mk ?_)
    refine Stop.out (c49.mono ?_)
    rintro e W2 ⟨rfl, hb2⟩
    have hR2 := row_on HRW.out hb2
    have HR2 : Hid (W2.rowIs w.heap.size 35 11 (mf yn mn dn dpn hn min sn cn pn false z)) := hR2
    have HP2 : Hid (Pow W2) := HP.out.on hb2
    have HB2 : Hid (Below w.heap.size w W2) := HB.out.trans (hb2.mono HB.out.size)
    clear c49 hb2 hR2 q0 q1 q2 q3 q4 q5 q6 q7 q8 q9 q10
    have c29 := H29.out
    have c44 := H44.out
    clear H29 H44
    have hB : MPw w W2.drew (mf yn mn dn dpn hn min sn cn pn false z) := ⟨HR2.out, HP2.out, HB2.out.drew⟩
    have q0 : W2.cell? ⟨w.heap.size, 0, none⟩ = some (.int .i64 (yn : Int)) := HR2.out.cell (i := 0) (by omega)
    have q1 : W2.cell? ⟨w.heap.size, 1, none⟩ = some (.int .i64 (mn : Int)) := HR2.out.cell (i := 1) (by omega)
    have q2 : W2.cell? ⟨w.heap.size, 2, none⟩ = some (.int .i64 (dn : Int)) := HR2.out.cell (i := 2) (by omega)
    have q3 : W2.cell? ⟨w.heap.size, 3, none⟩ = some (.int .i64 (dpn : Int)) := HR2.out.cell (i := 3) (by omega)
    have q4 : W2.cell? ⟨w.heap.size, 4, none⟩ = some (.int .i64 (hn : Int)) := HR2.out.cell (i := 4) (by omega)
    have q5 : W2.cell? ⟨w.heap.size, 5, none⟩ = some (.int .i64 (min : Int)) := HR2.out.cell (i := 5) (by omega)
    have q6 : W2.cell? ⟨w.heap.size, 6, none⟩ = some (.int .i64 (sn : Int)) := HR2.out.cell (i := 6) (by omega)
    have q7 : W2.cell? ⟨w.heap.size, 7, none⟩ = some (.int .i64 (cn : Int)) := HR2.out.cell (i := 7) (by omega)
    have q8 : W2.cell? ⟨w.heap.size, 8, none⟩ = some (.int .i64 (pn : Int)) := HR2.out.cell (i := 8) (by omega)
    have q9 : W2.cell? ⟨w.heap.size, 9, none⟩ = some (.bool false) := HR2.out.cell (i := 9) (by omega)
    have q10 : W2.cell? ⟨w.heap.size, 10, none⟩ = some (.int .i64 z) := HR2.out.cell (i := 10) (by omega)
    go_wp2
    go_region_held3 (fun w' => (w'.cell? ⟨w.heap.size, 0, none⟩ = some (.int .i64 (yn : Int)) ∧ w'.cell? ⟨w.heap.size, 1, none⟩ = some (.int .i64 (mn : Int)) ∧ w'.cell? ⟨w.heap.size, 2, none⟩ = some (.int .i64 (dn : Int)) ∧ w'.cell? ⟨w.heap.size, 3, none⟩ = some (.int .i64 (dpn : Int))) ∧ w'.cell? ⟨w.heap.size, 4, none⟩ = some (.int .i64 (hn : Int)) ∧ w'.cell? ⟨w.heap.size, 5, none⟩ = some (.int .i64 (min : Int)) ∧ w'.cell? ⟨w.heap.size, 6, none⟩ = some (.int .i64 (sn : Int)) ∧ w'.cell? ⟨w.heap.size, 7, none⟩ = some (.int .i64 (cn : Int)) ∧ w'.cell? ⟨w.heap.size, 8, none⟩ = some (.int .i64 (pn : Int))) (exact ⟨⟨hB.r.cell (i := 0) (by omega), hB.r.cell (i := 1) (by omega), hB.r.cell (i := 2) (by omega), hB.r.cell (i := 3) (by omega)⟩, hB.r.cell (i := 4) (by omega), hB.r.cell (i := 5) (by omega), hB.r.cell (i := 6) (by omega), hB.r.cell (i := 7) (by omega), hB.r.cell (i := 8) (by omega)⟩) (first | (go_at_call 18; refine (c29 _ ?_).mono ?_; (focus exact hB.p); rintro e W6 ⟨rfl, hb6⟩; replace hB := hB.on hb6) | (go_at_call 16; refine (c44 _ ?_).mono ?_; (focus exact hB.p); rintro e W6 ⟨rfl, hb6⟩; replace hB := hB.on hb6))
    all_goals
      clear q0 q1 q2 q3 q4 q5 q6 q7 q8 q9 q10 c29 c44
      have x9 := hB.r.cell (i := 9) (by omega)
      have y9 : _ = some (Value.bool false) := x9
      have hbel := hB.b
      clear hB x9
      go_wp2
      exact bodyPost_ret (v := .tuple #[.string (DX ++ TX), .nilIface]) (by simp [results, Tryz.results8, go_sem]) rfl ⟨_, by rw [app_nil], rfl, hbel⟩
  · rw [if_neg hu, if_neg hu]
    generalize mN y m d dp h mi sc mc p false z = U at *
    have hUI : (U != -1) = true := by simpa using hu
    have c24 := fun W' => refusal_any U 102 W'
    clear hu hO hp hT HRW
    unfold mv at *
    go_enter Tryz.func8, Tryz.ntmps8
    go_wp2_with (go_at_call 17; refine Stop.mk ?_)
    refine Stop.out (c49.mono ?_)
    rintro e W2 ⟨rfl, hb2⟩
    have HB2 : Hid (Below w.heap.size w W2) := HB.out.trans (hb2.mono HB.out.size)
    clear c49 q0 q1 q2 q3 q4 q5 q6 q7 q8 q9 q10 hb2
    go_wp2_with (go_at_call 15; refine Stop.mk ?_)
    refine Stop.out ((c24 _).mono ?_)
    rintro e W3 ⟨v, rfl, hv, hb3⟩
    have HB3 : Hid (Below w.heap.size w W3) := HB2.out.trans (hb3.mono HB2.out.size)
    have HV : Hid (PErr W3 v (some (U, 102))) := hv
    clear hb3 c24 hv
    go_wp2
    exact bodyPost_ret (v := .tuple #[.string ⟨#[]⟩, v]) (by simp [results, Tryz.results8, go_sem]) rfl ⟨_, rfl, HV.out, HB3.out⟩

theorem prt22_any (w : World) (y m d dp h mi sc mc p : Int) (zd : Bool) (z : Int) (hT : Mt w) (hO : Ot w) (hp : Pow w) : Calls Tryz.prog 8 #[mv y m d dp h mi sc mc p zd z] w (PostR w (.string (mW y m d dp h mi sc mc p zd z)) (mO y m d dp h mi sc mc p zd z)) := by
  cases zd with
  | true => exact prt22_t w y m d dp h mi sc mc p z hT hO hp
  | false => exact prt22_f w y m d dp h mi sc mc p z hT hO hp
end Go.Proofs.YtohojghndnfgdaaGreatDoor.Tm
