
import Derived.Test.YtegfgbcimlacbaaGreatDoorTc
import Derived.Test.YtegfgbcimlacbaaGreatDoorU
/-
  DERIVED. Encode, by the program.
-/
namespace Go.Proofs.YtegfgbcimlacbaaGreatDoor
open Go Go.Proofs Go.RowKit

/-- What Encode tells. -/
def enS (P : Row → Int → List Int × Row) (a : Row) (R : List Row) (k : Int) (s : ByteArray) : Except (Nat × Int) (List Int) :=
  if k < 0 ∨ 3 ≤ k then .error (0, 84)
  else if 65534 < s.size then .error (65534, 85)
  else dcEnd (wrS P (kdS (2 * k.toNat)) (kdS (2 * k.toNat + 1)) a R s s.size 0 a [])

theorem Kinds.kb {R : List Row} {w w' : World} (h : Kinds w) (hk : KB R w.heap.size w w') (h0 : ∀ r ∈ R, (0 : Nat) ≠ r.2.2 + 1) : Kinds w' := ⟨fun i hi => hk.cell (h.p i hi) (cell_lt (h.p i hi)) h0⟩

set_option maxRecDepth 100000 in
set_option maxHeartbeats 4000000 in
theorem encode_any (w : World) (q : Nat) (v : Value) (a : Row) (R : List Row) (x : Bool) (k : Int) (s : ByteArray) (P : Row → Int → List Int × Row) (hset : SetIn w q v (a :: R) x) (hR6 : (a :: R).length ≤ 6) (hN : ∀ r ∈ a :: R, r.1 < 7) (hq5 : 5 < q)
    (hT : Tabs w) (hK : Kinds w) (hP : PutOK q v a R x P) :
    Calls Tryz.prog 5 #[.pointer (some ⟨q, 0, none⟩), .int .i64 k, .string s] w (PostW w q v a R x (enS P a R k s)) := by
  have c42 := admits_any w q v a R x k (s.size : Int) hset
  have HS : Hid _ := hset
  unfold enS
  by_cases hk : k < 0 ∨ 3 ≤ k
  · rw [if_pos hk]
    unfold admitS at c42
    rw [if_pos hk] at c42
    clear hR6 hN hT hK hP
    go_enter Tryz.func5, Tryz.ntmps5
    go_wp2_with (go_at_call 14; refine Stop.mk ?_)
    refine Stop.out (c42.mono ?_)
    rintro e W1 ⟨u, rfl, ⟨g, rfl, hf⟩, hb1⟩
    have HV : Hid _ := hf
    have HB : Hid _ := hb1
    clear hf hset c42 hb1
    go_wp2
    exact bodyPost_ret (v := .tuple #[.slice none 0 0, .iface 90 (.pointer (some ⟨g, 0, none⟩))]) (by simp [results, Tryz.results5, go_sem]) rfl ⟨KB.of_below HB.out, HS.out.on HB.out, _, rfl, g, rfl, HV.out⟩
  · rw [if_neg hk]
    by_cases hs : 65534 < s.size
    · rw [if_pos hs]
      unfold admitS fitS at c42
      rw [if_neg hk, if_pos (by omega)] at c42
      clear hR6 hN hT hK hP
      go_enter Tryz.func5, Tryz.ntmps5
      go_wp2_with (go_at_call 14; refine Stop.mk ?_)
      refine Stop.out (c42.mono ?_)
      rintro e W1 ⟨u, rfl, ⟨g, rfl, hf⟩, hb1⟩
      have HV : Hid _ := hf
      have HB : Hid _ := hb1
      clear hf hset c42 hb1
      go_wp2
      exact bodyPost_ret (v := .tuple #[.slice none 0 0, .iface 90 (.pointer (some ⟨g, 0, none⟩))]) (by simp [results, Tryz.results5, go_sem]) rfl ⟨KB.of_below HB.out, HS.out.on HB.out, _, rfl, g, rfl, HV.out⟩
    · rw [if_neg hs]
      unfold admitS fitS at c42
      rw [if_neg hk, if_neg (by omega)] at c42
      obtain ⟨j, hj, rfl⟩ : ∃ j : Nat, j < 3 ∧ k = (j : Int) := ⟨k.toNat, by omega, by omega⟩
      rw [Int.toNat_natCast]
      have HW : Hid (∀ W, Below w.heap.size w W → (W.cell? ⟨0, 2 * j, none⟩ = some (.string (kdS (2 * j))) ∧ W.cell? ⟨0, 2 * j + 1, none⟩ = some (.string (kdS (2 * j + 1)))) ∧ Calls Tryz.prog 15 #[.pointer (some ⟨q, 0, none⟩), .agg #[.string (kdS (2 * j)), .string (kdS (2 * j + 1))], .string s] W (PostW W q v a R x (wrS P (kdS (2 * j)) (kdS (2 * j + 1)) a R s s.size 0 a []))) := fun W hb =>
        ⟨⟨(hK.on hb).p _ (by omega), (hK.on hb).p _ (by omega)⟩, write_any W q v a R x _ _ s P (hset.on hb) hR6 hN hq5 (kd_short ⟨2 * j, by omega⟩) (kd_short ⟨2 * j + 1, by omega⟩) (hT.on hb) hP (by omega)⟩
      obtain ⟨F, hF⟩ : ∃ F, wrS P (kdS (2 * j)) (kdS (2 * j + 1)) a R s s.size 0 a [] = F := ⟨_, rfl⟩
      rw [hF] at HW ⊢
      generalize kdS (2 * j) = kc at *
      generalize kdS (2 * j + 1) = ke at *
      obtain ⟨G, hG⟩ : ∃ G, dcEnd F = G := ⟨_, rfl⟩
      rw [hG]
      have HG : Hid _ := hG
      clear hG hF hset hR6 hN hT hK hP
      have hjI : (j : Int) < 3 := by omega
      go_enter Tryz.func5, Tryz.ntmps5
      go_wp2_with (go_at_call 14; refine Stop.mk ?_)
      refine Stop.out (c42.mono ?_)
      rintro e W1 ⟨u, rfl, hu, hb1⟩
      obtain rfl : u = .nilIface := hu
      have HB1 : Hid _ := hb1
      obtain ⟨⟨g0, g1⟩, c45⟩ := HW.out W1 hb1
      have g0' : W1.cell? ⟨0, j * 2, none⟩ = some (.string kc) := by rw [Nat.mul_comm]; exact g0
      have g1' : W1.cell? ⟨0, j * 2 + 1, none⟩ = some (.string ke) := by rw [Nat.mul_comm]; exact g1
      clear c42 hb1 g0 g1
      cases F with
      | error ic =>
        obtain ⟨i, c⟩ := ic
        have hG := HG.out
        simp only [dcEnd] at hG
        subst hG
        go_wp2_with (go_at_call 15; refine Stop.mk ?_)
        refine Stop.out (c45.mono ?_)
        rintro e W2 ⟨hk2, hs2, er, rfl, g, rfl, hf⟩
        have HV : Hid _ := hf
        have HK2 : Hid _ := hk2
        have HS2 : Hid _ := hs2
        clear hf hk2 hs2 c45
        go_wp2
        exact bodyPost_ret (v := .tuple #[.slice none 0 0, .iface 90 (.pointer (some ⟨g, 0, none⟩))]) (by simp [results, Tryz.results5, go_sem]) rfl ⟨(KB.of_below HB1.out).trans (HK2.out.mono HB1.out.size), HS2.out, _, rfl, g, rfl, HV.out⟩
      | ok out =>
        go_wp2_with (go_at_call 15; refine Stop.mk ?_)
        refine Stop.out (c45.mono ?_)
        rintro e W2 ⟨hk2, hs2, v', rfl, hown, hbz, hne9⟩
        have HO : Hid (W2.ownsRow W1.heap.size 5 1 v' out.length (cellsZ out)) := hown
        have HZ : Hid _ := hbz
        have HNE9 : Hid (v' = .slice none 0 0 ∨ 0 < out.length) := hne9
        clear hne9
        have HK2 : Hid (KB (a :: R) w.heap.size w W2) := (KB.of_below HB1.out).trans (hk2.mono HB1.out.size)
        have HS2 : Hid _ := hs2
        have HB1s : Hid (w.heap.size ≤ W1.heap.size) := HB1.out.size
        obtain ⟨va, vc, rfl⟩ : ∃ va vc, v' = .slice va out.length vc := by
          rcases hown.2 with ⟨rfl, h0⟩ | ⟨g, cap, cur, hv, _⟩
          · exact ⟨none, 0, by rw [h0]⟩
          · exact ⟨_, _, hv⟩
        have c44 := fits_any W2 (out.length : Int)
        unfold fitS at c44
        clear hk2 hs2 c45 hown hbz
        by_cases hL : 65534 < out.length
        · rw [if_pos (by omega)] at c44
          have hG := HG.out
          simp only [dcEnd] at hG
          rw [if_pos hL] at hG
          subst hG
          go_wp2_with (go_at_call 16; refine Stop.mk ?_)
          refine Stop.out (c44.mono ?_)
          rintro e W3 ⟨er, rfl, ⟨g, rfl, hf⟩, hb3⟩
          have HV : Hid _ := hf
          have HB3 : Hid _ := hb3
          clear hf hb3 c44
          go_wp2
          exact bodyPost_ret (v := .tuple #[.slice none 0 0, .iface 90 (.pointer (some ⟨g, 0, none⟩))]) (by simp [results, Tryz.results5, go_sem]) rfl ⟨HK2.out.trans (KB.of_below (HB3.out.mono HK2.out.size)), HS2.out.on HB3.out, _, rfl, g, rfl, HV.out⟩
        · rw [if_neg (by omega)] at c44
          have hG := HG.out
          simp only [dcEnd] at hG
          rw [if_neg hL] at hG
          subst hG
          go_wp2_with (go_at_call 16; refine Stop.mk ?_)
          refine Stop.out (c44.mono ?_)
          rintro e W3 ⟨er, rfl, rfl, hb3⟩
          have HB3 : Hid _ := hb3
          clear hb3 c44
          go_wp2
          exact bodyPost_ret (v := .tuple #[.slice va out.length vc, .nilIface]) (by simp [results, Tryz.results5, go_sem]) rfl ⟨HK2.out.trans (KB.of_below (HB3.out.mono HK2.out.size)), HS2.out.on HB3.out, _, rfl, own_low (ownsRow_below HO.out HB3.out (Nat.le_refl _)) HB1s.out, HZ.out, HNE9.out⟩

theorem byte_lt (k : Nat) (r : Int) : byteOf k r < 256 := by
  have hL : ∀ m, m ≤ 96 → byteL k r m < 256 := by
    intro m
    induction m with
    | zero => intro _; simp [byteL]
    | succ m ih => intro hm; rw [byteL]; split; omega; exact ih (by omega)
  exact hL 96 (Nat.le_refl _)

/-- In a set of one repertoire each rune is put in that. -/
def P1 (h : Row) (r : Int) : List Int × Row := ([(byteOf h.1 r : Int)], h)
theorem put_one (q : Nat) (v : Value) (a : Row) (x : Bool) (ha : a.1 ≠ 6) (ha7 : a.1 < 7) (hq : 5 < q) : PutOK q v a [] x P1 := by
  intro w h u base out r hr0 hr1 hset hm hh hasc hT hown hne hlen hbase hfar
  obtain rfl : h = a := by simpa using hm
  have hb : byteOf h.1 r ≠ 0 := by
    unfold hasS at hh
    rw [hasc, Bool.false_or, if_neg (by simpa using ha)] at hh
    intro e
    simp [firstB, e] at hh
  refine ⟨?_, by simp [P1], by simp [P1], by simp [P1], ?_⟩
  · exact put_holds w q v u h [] x h 0 base out r (by omega) (by omega) hset ha rfl ha7 hb (byte_lt _ _) hT hq hown hne hlen hbase hfar
  · intro z hz
    simp [P1] at hz
    have := byte_lt h.1 r
    omega
end Go.Proofs.YtegfgbcimlacbaaGreatDoor
