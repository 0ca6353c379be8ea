import Derived.Test.YtohojghndnfgdaaGreatDoorQVc
import Derived.Test.YtohojghndnfgdaaGreatDoorQVe
/-
  DERIVED. PrintTime, by the program.
-/
namespace Go.Proofs.YtohojghndnfgdaaGreatDoor.Tm
open Go Go.Proofs Go.RowKit

theorem tT_list (h m s c p : Nat) (hp : p ≤ 3) : (tT h m s c p).data.toList = (pd h 2 ++ pd m 2 ++ pd s 2).take (2 * p) := by
  unfold tT
  rw [if_pos hp, ByteArray.data_extract]
  unfold tx6
  rw [ByteArray.data_append, ByteArray.data_append]
  simp [pdB]
  simp [List.take_append, Nat.sub_sub]
theorem ba_ext {a b : ByteArray} (h : a.data.toList = b.data.toList) : a = b := by
  apply ByteArray.ext
  apply Array.ext'
  exact h
theorem tT_0 (h m s c : Nat) : tT h m s c 0 = ⟨#[]⟩ := ba_ext (by rw [tT_list _ _ _ _ _ (by omega)]; rfl)
theorem tT_1 (h m s c : Nat) : tT h m s c 1 = pdB h 2 := ba_ext (by
  rw [tT_list _ _ _ _ _ (by omega)]
  show _ = (pd h 2).toArray.toList
  rw [List.append_assoc, List.take_append_of_le_length (by rw [pd_len]; omega), List.take_of_length_le (by rw [pd_len]; omega)])
theorem tT_2 (h m s c : Nat) : tT h m s c 2 = pdB h 2 ++ pdB m 2 := ba_ext (by
  rw [tT_list _ _ _ _ _ (by omega), ByteArray.data_append]
  rw [List.take_append_of_le_length (by rw [List.length_append, pd_len, pd_len]; omega), List.take_of_length_le (by rw [List.length_append, pd_len, pd_len]; omega)]
  simp [pdB])
theorem tT_3 (h m s c : Nat) : tT h m s c 3 = pdB h 2 ++ pdB m 2 ++ pdB s 2 := ba_ext (by
  rw [tT_list _ _ _ _ _ (by omega), ByteArray.data_append, ByteArray.data_append]
  rw [List.take_of_length_le (by rw [List.length_append, List.length_append, pd_len, pd_len, pd_len]; omega)]
  simp [pdB])

theorem tN_ok {h m s c p : Int} (hu : tN h m s c p = -1) : ∃ hn mn sn cn pn : Nat, h = hn ∧ m = mn ∧ s = sn ∧ c = cn ∧ p = pn ∧ hn ≤ 23 ∧ mn ≤ 59 ∧ sn ≤ 60 ∧ cn ≤ 999999 ∧ 1 ≤ pn ∧ pn ≤ 9 := by
  unfold tN at hu
  split at hu
  · cases hu
  · split at hu
    · cases hu
    · split at hu
      · cases hu
      · split at hu
        · cases hu
        · split at hu
          · cases hu
          · refine ⟨h.toNat, m.toNat, s.toNat, c.toNat, p.toNat, ?_⟩
            omega
theorem tN_is (h m s c p : Int) : tN h m s c p = -1 ∨ (0 ≤ tN h m s c p ∧ tN h m s c p ≤ 4) := by
  unfold tN
  split
  · omega
  · split
    · omega
    · split
      · omega
      · split
        · omega
        · split <;> omega
def tW (h m s c p : Int) : ByteArray := if tN h m s c p = -1 then tT h.toNat m.toNat s.toNat c.toNat p.toNat else ⟨#[]⟩
def tO (h m s c p : Int) : Option (Int × Int) := if tN h m s c p = -1 then none else some (tN h m s c p, 102)

set_option maxRecDepth 100000 in
set_option maxHeartbeats 1000000 in
theorem prt18_any (w : World) (h m s c p : Int) (hO : Ot w) (hp : Pow w) : Calls Tryz.prog 6 #[t5 h m s c p] w (PostR w (.string (tW h m s c p)) (tO h m s c p)) := by
  obtain ⟨W, hW⟩ : ∃ W, w.alloc (.cells #[.int .i64 h, .int .i64 m, .int .i64 s, .int .i64 c, .int .i64 p] 29) = W := ⟨_, rfl⟩
  have HB : Hid (Below w.heap.size w W) := hW ▸ (Below.refl _ _).alloc (Nat.le_refl _) _
  have hR : W.rowIs w.heap.size 29 5 (fun k => #[Value.int .i64 h, .int .i64 m, .int .i64 s, .int .i64 c, .int .i64 p].getD k undef) := by
    rw [← hW]; exact World.rowIs_alloc w _ 29 _ (row_lit _)
  have HRW : Hid _ := hR
  have q0 : W.cell? ⟨w.heap.size, 0, none⟩ = some (.int .i64 h) := hR.cell (i := 0) (by omega)
  have q1 : W.cell? ⟨w.heap.size, 1, none⟩ = some (.int .i64 m) := hR.cell (i := 1) (by omega)
  have q2 : W.cell? ⟨w.heap.size, 2, none⟩ = some (.int .i64 s) := hR.cell (i := 2) (by omega)
  have q3 : W.cell? ⟨w.heap.size, 3, none⟩ = some (.int .i64 c) := hR.cell (i := 3) (by omega)
  have q4 : W.cell? ⟨w.heap.size, 4, none⟩ = some (.int .i64 p) := hR.cell (i := 4) (by omega)
  have c43 := unfitT_any W h m s c p (hO.on HB.out)
  have HP : Hid (Pow W) := hp.on HB.out
  unfold tW tO
  by_cases hu : tN h m s c p = -1
  · rw [if_pos hu, if_pos hu]
    rw [hu] at c43
    obtain ⟨hn, mn, sn, cn, pn, rfl, rfl, rfl, rfl, rfl, b1, b2, b3, b4, b5, b6⟩ := tN_ok hu
    simp only [Int.toNat_natCast]
    have c44 := fun W' hp' => textT_any W' hn mn sn cn pn (by omega) (by omega) (by omega) b4 b6 hp'
    generalize tT hn mn sn cn pn = X at *
    clear hR hu b1 b2 b3 b4 b5 b6 hO hp
    unfold t5 at *
    go_enter Tryz.func6, Tryz.ntmps6
    go_wp2_with (go_at_call 14; refine Stop.mk ?_)
    refine Stop.out (c43.mono ?_)
    rintro e W2 ⟨rfl, hb2⟩
    have hR2 := row_on HRW.out hb2
    have u0 : W2.cell? ⟨w.heap.size, 0, none⟩ = some (.int .i64 (hn : Int)) := hR2.cell (i := 0) (by omega)
    have u1 : W2.cell? ⟨w.heap.size, 1, none⟩ = some (.int .i64 (mn : Int)) := hR2.cell (i := 1) (by omega)
    have u2 : W2.cell? ⟨w.heap.size, 2, none⟩ = some (.int .i64 (sn : Int)) := hR2.cell (i := 2) (by omega)
    have u3 : W2.cell? ⟨w.heap.size, 3, none⟩ = some (.int .i64 (cn : Int)) := hR2.cell (i := 3) (by omega)
    have u4 : W2.cell? ⟨w.heap.size, 4, none⟩ = some (.int .i64 (pn : Int)) := hR2.cell (i := 4) (by omega)
    have c := c44 W2 (HP.out.on hb2)
    have HB2 : Hid (Below w.heap.size w W2) := HB.out.trans (hb2.mono HB.out.size)
    clear c43 c44 q0 q1 q2 q3 q4 hb2 hR2
    go_wp2_with (go_at_call 16; refine Stop.mk ?_)
    refine Stop.out (c.mono ?_)
    rintro e W3 ⟨rfl, hb3⟩
    have HB3 : Hid (Below w.heap.size w W3) := HB2.out.trans (hb3.mono HB2.out.size)
    clear hb3 c
    go_wp2
    exact bodyPost_ret (v := .tuple #[.string X, .nilIface]) (by simp [results, Tryz.results6, go_sem]) rfl ⟨_, rfl, rfl, HB3.out⟩
  · rw [if_neg hu, if_neg hu]
    generalize tN h m s c p = U at *
    have hUI : (U != -1) = true := by simpa using hu
    have c24 := fun W' => refusal_any U 102 W'
    clear hR hu hO hp HRW
    unfold t5 at *
    go_enter Tryz.func6, Tryz.ntmps6
    go_wp2_with (go_at_call 14; refine Stop.mk ?_)
    refine Stop.out (c43.mono ?_)
    rintro e W2 ⟨rfl, hb2⟩
    have HB2 : Hid (Below w.heap.size w W2) := HB.out.trans (hb2.mono HB.out.size)
    clear c43 q0 q1 q2 q3 q4 hb2
    go_wp2_with (go_at_call 15; refine Stop.mk ?_)
    refine Stop.out ((c24 _).mono ?_)
    rintro e W3 ⟨v, rfl, hv, hb3⟩
    have HB3 : Hid (Below w.heap.size w W3) := HB2.out.trans (hb3.mono HB2.out.size)
    have HV : Hid (PErr W3 v (some (U, 102))) := hv
    clear hb3 c24 hv
    go_wp2
    exact bodyPost_ret (v := .tuple #[.string ⟨#[]⟩, v]) (by simp [results, Tryz.results6, go_sem]) rfl ⟨_, rfl, HV.out, HB3.out⟩
end Go.Proofs.YtohojghndnfgdaaGreatDoor.Tm
