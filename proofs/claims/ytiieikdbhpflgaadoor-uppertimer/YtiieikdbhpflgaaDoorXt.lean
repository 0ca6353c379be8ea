import Derived.Test.YtiieikdbhpflgaaDoorXs
/-
  DERIVED. The law of the timer.
-/
namespace Go.Proofs.YtiieikdbhpflgaaDoor
open Go Go.Proofs Go.RowKit

theorem BelBut.below {p : Nat} {w w' : World} (h : BelBut p w w') {B : Nat} (h1 : B ≤ p) (h2 : B ≤ w.heap.size) : Below B w w' :=
  ⟨h.os, h.tape, h.output, h.size, fun b hb => h.block b (Nat.lt_of_lt_of_le hb h2) (by omega)⟩
def S0 (a : Int) : Prov := ⟨a, 0, 1, false, noPdu⟩
set_option maxRecDepth 100000 in
theorem new_x (w : World) (a : Int) (h1 : 1 ≤ a) (h2 : a ≤ 1000) : Calls Tryd.prog 12 #[.int .i64 a] w fun e w' => e = .returned (.tuple #[.pointer (some ⟨w.heap.size, 0, none⟩), .nilIface]) ∧ Below w.heap.size w w' ∧ ∃ PV, PvS w' w.heap.size PV zc (S0 a) := by
  go_enter Tryd.func12, Tryd.ntmps12
  go_wp2
  all_goals first | (exfalso; omega) | skip
  refine bodyPost_ret (v := .tuple #[.pointer (some ⟨w.heap.size, 0, none⟩), .nilIface]) (by simp [results, Tryd.results12, go_sem]) rfl ⟨rfl, (Below.refl _ _).alloc (Nat.le_refl _) _, _, ⟨⟨alloc_new w _, rfl, by kernel_rfl, ?_, ox_zero _ _ _ zc_one rfl rfl rfl rfl⟩, SameC.refl _, rfl, rfl, rfl, rfl⟩⟩
  intro j v hv
  have hj : j < 19 := (List.getElem?_eq_some_iff.1 hv).1
  have : ∀ j : Fin 19, (#[Value.int .i64 a, .int .i64 0, .int .i64 1, .bool false, .int .i64 0, .int .u16 0, .string ⟨#[]⟩, .string ⟨#[]⟩, .string ⟨#[]⟩, .slice none 0 0, .bool false, .int .u32 0, .string ⟨#[]⟩, .string ⟨#[]⟩, .bool false, .int .u16 0, .int .u16 0, .slice none 0 0, .slice none 0 0, .int .u8 0, .int .u8 0, .int .u8 0, .slice none 0 0] : Array Value)[4 + j.val]? = (Pd 0 zc).toList[j.val]? := fun j => by
    match j with
    | ⟨0, _⟩ => rfl
    | ⟨1, _⟩ => rfl
    | ⟨2, _⟩ => rfl
    | ⟨3, _⟩ => rfl
    | ⟨4, _⟩ => rfl
    | ⟨5, _⟩ => rfl
    | ⟨6, _⟩ => rfl
    | ⟨7, _⟩ => rfl
    | ⟨8, _⟩ => rfl
    | ⟨9, _⟩ => rfl
    | ⟨10, _⟩ => rfl
    | ⟨11, _⟩ => rfl
    | ⟨12, _⟩ => rfl
    | ⟨13, _⟩ => rfl
    | ⟨14, _⟩ => rfl
    | ⟨15, _⟩ => rfl
    | ⟨16, _⟩ => rfl
    | ⟨17, _⟩ => rfl
    | ⟨18, _⟩ => rfl
    | ⟨k + 19, h⟩ => exact absurd h (by omega)
  exact (this ⟨j, hj⟩).trans hv
theorem field53 (W : World) (s l : Int) (b c : Bool) : (Instr.field 53 (.agg #[.int .i64 s, .bool b, .bool c, .int .i64 l]) 0).run Tryd.prog W = .ok (.int .i64 s) W := by kernel_rfl
theorem pv_of {w : World} {p : Nat} {PV : Array Value} {c0 : Fin 18 → Value} {S : Prov} (h : PvS w p PV c0 S) : Pv w p S.art S.left S.sta S.asked := by
  refine ⟨?_, ?_, ?_, ?_⟩ <;> rw [cell_of_row w _ _ _ _ _ h.x.row]
  · exact h.v0
  · exact h.v1
  · exact h.v2
  · exact h.v3
/-- The provider, by what holds of it. -/
def PvE (w : World) (p : Nat) (S : Prov) : Prop := ∃ PV c0, PvS w p PV c0 S
def DoE (w : World) (p : Nat) (S : Prov) (L : List AcD) (x : Ending) (w' : World) : Prop := ∃ v, x = .returned v ∧ AR w.heap.size w' v L ∧ PvE w' p S ∧ BelBut p w w'
theorem do_e (w : World) (p : Nat) (EV : Array Value) (a : Int) (S : Prov) (d : EvD) (ha : a ≤ 1000) (ha1 : 1 ≤ a) (hI : InvS a S) (hP : PvE w p S) (hE : EvY w EV d) (hT : Tb w) (hN : Nd w) (hp0 : 2 < p) :
    Calls Tryd.prog 13 #[.pointer (some ⟨p, 0, none⟩), .agg EV] w (DoE w p (doS S d).1 (doS S d).2) := by
  obtain ⟨PV, c0, h⟩ := hP
  refine (do_any w p PV EV c0 S d ?_ h hE hT hN hp0).mono ?_
  · by_cases ht : Td S.sta
    · have := hI.on ht; omega
    · rw [hI.off ht]; omega
  · rintro x w' ⟨v, PV', c', rfl, h1, h2, h3⟩
    exact ⟨v, rfl, h1, ⟨PV', c', h2⟩, h3⟩
theorem state_e (w : World) (p : Nat) (S : Prov) (h : PvE w p S) : Calls Tryd.prog 15 #[.pointer (some ⟨p, 0, none⟩)] w fun e w' => e = .returned (.agg #[.int .i64 S.sta, .bool S.asked, .bool (decide (0 < S.left)), .int .i64 S.left]) ∧ Below w.heap.size w w' := by
  obtain ⟨PV, c0, h⟩ := h
  exact state_any w p _ _ _ _ (pv_of h)
theorem PvE.on {w w' : World} {p : Nat} {S : Prov} (h : PvE w p S) (hb : Below w.heap.size w w') : PvE w' p S := by
  obtain ⟨PV, c0, h⟩ := h; exact ⟨PV, c0, h.on hb⟩
theorem PvE.lt {w : World} {p : Nat} {S : Prov} (h : PvE w p S) : p < w.heap.size := by
  obtain ⟨PV, c0, h⟩ := h; exact h.x.lt
theorem lend_y (w : World) (EV : Array Value) (d : EvD) (hE : EvY w EV d) : Calls Tryd.prog 14 #[.agg EV] w fun e w' => ∃ Q d', e = .returned (.agg Q) ∧ EvY w' Q d' ∧ Below w.heap.size w w' := by
  refine (lend_evx w EV _ _ _ _ _ _ _ hE.ev).mono ?_
  rintro x w' ⟨Q, c3, c4, rfl, h1, h2, h3, h4, h5⟩
  exact ⟨Q, ⟨d.kd, ⟨d.p.k, c3, d.p.D⟩, d.bad, ⟨d.a.k, c4, d.a.D⟩, d.rs, d.s⟩, rfl, ⟨h1, h2.trans hE.bad, h3.trans hE.rs, ((h4 15 (by decide) (by decide) (by decide) (by decide)).1).trans hE.s⟩, h5⟩
/-- Events that can be read, exactly. -/
def EvsY (w : World) (v : Value) (n : Nat) : Prop := ∃ ao cap, v = .slice ao n cap ∧ (0 < n → ∃ b off, ao = some ⟨b, off, none⟩ ∧ ∀ i, i < n → ∃ EV d, w.rangeAt b (off + i * 41) EV.toList ∧ EvY w EV d)
theorem range_onX {w w' : World} {b o : Nat} {cs : List Value} (h : w.rangeAt b o cs) (hb : Below w.heap.size w w') : w'.rangeAt b o cs := fun j v hv => (hb.cell (cell_lt (h j v hv))).trans (h j v hv)

set_option maxRecDepth 100000 in
set_option maxHeartbeats 8000000 in
theorem timer_in (w : World) (a : Int) (v : Value) (n : Nat) (h1 : 1 ≤ a) (h2 : a ≤ 1000) (hn : n ≤ 140737488351232) (hv : EvsY w v n) (hT : Tb w) (hN : Nd w) :
    Calls Tryd.prog 5 #[.int .i64 a, v] w fun x w' => x = .returned (.bool true) ∧ Below w.heap.size w w' := by
  obtain ⟨ao, cap, rfl, hel⟩ := hv
  have HEl : Hid (0 < n → ∃ b off, ao = some ⟨b, off, none⟩ ∧ ∀ i, i < n → ∃ EV d, w.rangeAt b (off + i * 41) EV.toList ∧ EvY w EV d) := hel
  have hp0 : 2 < w.heap.size := hN.lt
  clear hel
  obtain ⟨fs, hu⟩ := hu50
  have HN : Hid (Tb w ∧ Nd w ∧ 2 < w.heap.size ∧ 1 ≤ a ∧ a ≤ 1000) := ⟨hT, hN, hp0, h1, h2⟩
  have hnw := new_x w a h1 h2
  clear hT hN hp0
  go_enter Tryd.func5, Tryd.ntmps5
  go_wp2_with (go_at_call 12; refine hnw.mono ?_; rintro x W1 ⟨rfl, hb1, PV1, hP1⟩)
  all_goals first | (exfalso; omega) | skip
  have HB1 : Hid (Below w.heap.size w W1 ∧ PvE W1 w.heap.size (S0 a)) := ⟨hb1, PV1, zc, hP1⟩
  clear hb1 hP1 hnw h1 h2
  go_loopw [7] (fun x wr => ∃ (j : Nat), x = .int .i64 (j : Int) ∧ j ≤ n ∧ Hid (Below w.heap.size w wr ∧ ∃ S, PvE wr w.heap.size S ∧ InvS a S ∧ (j = 0 → S.sta = 1))) (fun x _ => n - (intOf x).toNat)
  case atStart => exact ⟨0, rfl, by omega, HB1.out.1, S0 a, HB1.out.2, ⟨rfl, by show (1 : Int) ≤ 1; decide, by show (1 : Int) ≤ 13; decide, fun h => absurd (show Td 1 from h) (by decide), fun _ => rfl⟩, fun _ => rfl⟩
  case round =>
    clear HB1
    obtain ⟨j, rfl, hj, HB⟩ := hrel
    by_cases hjn : j < n
    · have hjn2 : ((j : Int) < (n : Int)) := by omega
      obtain ⟨b, off, hao, hE⟩ := HEl.out (by omega)
      subst hao
      obtain ⟨hbw, S, hP, hI, hs1⟩ := HB.out
      obtain ⟨EV, d, hr0, hev0⟩ := hE j hjn
      have hr := range_onX hr0 hbw
      have hev := hev0.on hbw
      have hsz : (Tryd.prog.info? 50).map (·.size) = some EV.toList.length := by rw [Array.length_toList, hev.ev.sz]; exact size50
      have hln := lend_y wr EV d hev
      have HI : Hid (InvS a S) := hI
      have HP : Hid (Below w.heap.size w wr ∧ PvE wr w.heap.size S) := ⟨hbw, hP⟩
      clear hE hr0 hev0 hev hI hs1 hbw hP HB
      go_wp2_with (first | (refine wpList_load_mid rfl 50 (.tmp 46) rfl b (off + j * 41) rfl EV.toList _ hr hu rfl hsz ?_) | (go_at_call 14; refine hln.mono ?_; refine Stop9.mk ?_))
      rintro x W3 ⟨Q, d', rfl, hy, hb3⟩
      have hI := inv_do d' HN.out.2.2.2.1 HI.out
      have hdo := do_e W3 w.heap.size Q a S d' HN.out.2.2.2.2 HN.out.2.2.2.1 HI.out (HP.out.2.on hb3) hy (HN.out.1.on (HP.out.1.trans (hb3.mono HP.out.1.size))) (HN.out.2.1.on (HP.out.1.trans (hb3.mono HP.out.1.size))) HN.out.2.2.1
      generalize doS S d' = R at hI hdo
      obtain ⟨S', L'⟩ := R
      have HB3 : Hid (Below w.heap.size w W3) := HP.out.1.trans (hb3.mono HP.out.1.size)
      clear hy hb3 hln hr hsz HI HP
      go_wp2_with (go_at_call 13; refine hdo.mono ?_; refine Stop9.mk ?_)
      rintro x W4 ⟨v4, rfl, _, hP4, hB4⟩
      have HB4 : Hid (Below w.heap.size w W4 ∧ PvE W4 w.heap.size S') := ⟨HB3.out.trans (hB4.below (Nat.le_refl _) HB3.out.size), hP4⟩
      have hst := state_e W4 w.heap.size S' hP4
      have HI : Hid (InvS a S') := hI
      have f1 := hI.lo
      have f2 := hI.hi
      have fon := hI.on
      have foff := hI.off
      have fart := hI.art
      obtain ⟨art, left, sta, asked, K⟩ := S'
      clear hP4 hB4 hdo hI HB3
      simp only at f1 f2 fon foff fart hst
      by_cases t2 : sta = 2
      · subst t2
        obtain ⟨g1, g2⟩ := fon (.inl rfl)
        rw [show decide (0 < left) = true by simp; omega] at hst
        have HA : Hid (art = a) := fart
        clear fon foff fart f1 f2
        go_wp2_with (go_at_call 15; refine hst.mono ?_; rintro x W5 ⟨rfl, hb5⟩)
        go_roundw
        case rel => exact ⟨j + 1, by go_num, by omega, (HB4.out.1.trans (hb5.mono HB4.out.1.size)).alloc (Nat.le_trans HB4.out.1.size hb5.size) _, _, (HB4.out.2.on hb5).on ((Below.refl _ _).alloc (Nat.le_refl _) _), HI.out, fun h => by omega⟩
        case measure => simp [intOf]; omega
      · by_cases t3 : sta = 13
        · subst t3
          obtain ⟨g1, g2⟩ := fon (.inr rfl)
          rw [show decide (0 < left) = true by simp; omega] at hst
          clear fon foff fart f1 f2 t2
          go_wp2_with (go_at_call 15; refine hst.mono ?_; rintro x W5 ⟨rfl, hb5⟩)
          go_roundw
          case rel => exact ⟨j + 1, by go_num, by omega, (HB4.out.1.trans (hb5.mono HB4.out.1.size)).alloc (Nat.le_trans HB4.out.1.size hb5.size) _, _, (HB4.out.2.on hb5).on ((Below.refl _ _).alloc (Nat.le_refl _) _), HI.out, fun h => by omega⟩
          case measure => simp [intOf]; omega
        · have g0 : left = 0 := foff (fun h => h.elim t2 t3)
          rw [show decide (0 < left) = false by simp; omega] at hst
          have b2 : (sta == 2) = false := by simpa using t2
          have b3 : (sta == 13) = false := by simpa using t3
          have HG : Hid (left = 0) := g0
          rw [g0] at hst
          clear fon foff fart t2 t3 g0
          go_wp2_with (go_at_call 15; refine hst.mono ?_; rintro x W5 ⟨rfl, hb5⟩)
          go_roundw
          case rel => exact ⟨j + 1, by go_num, by omega, (HB4.out.1.trans (hb5.mono HB4.out.1.size)).alloc (Nat.le_trans HB4.out.1.size hb5.size) _, _, (HB4.out.2.on hb5).on ((Below.refl _ _).alloc (Nat.le_refl _) _), HI.out, fun h => by omega⟩
          case measure => simp [intOf]; omega
    · obtain rfl : j = n := by omega
      have hjn2 : ¬ ((j : Int) < (j : Int)) := by omega
      obtain ⟨hbw, S, hP, hI, hs1⟩ := HB.out
      clear HEl hjn HB
      have hend := sta_end hI
      have hb5 := evZ_built 5
      have hb15 := evZ_built 15
      have hb20 := evZ_built 20
      have y5 := fun W => evZ_y W 5
      have y15 := fun W => evZ_y W 15
      have y20 := fun W => evZ_y W 20
      have hdo := do_e wr w.heap.size (evZ 5) a S (evD 5) HN.out.2.2.2.2 HN.out.2.2.2.1 hI hP (y5 wr) (HN.out.1.on hbw) (HN.out.2.1.on hbw) HN.out.2.2.1
      have hI5 := inv_do (evD 5) HN.out.2.2.2.1 hI
      have HS : Hid (j = 0 → S.sta = 1) := hs1
      obtain ⟨Z5, hZ5⟩ : ∃ A, evZ 5 = A := ⟨_, rfl⟩
      obtain ⟨Z15, hZ15⟩ : ∃ A, evZ 15 = A := ⟨_, rfl⟩
      obtain ⟨Z20, hZ20⟩ : ∃ A, evZ 20 = A := ⟨_, rfl⟩
      rw [hZ5] at hb5 hdo
      rw [hZ15] at hb15 y15
      rw [hZ20] at hb20 y20
      have Y15 : Hid (∀ W, EvY W Z15 (evD 15)) := y15
      have Y20 : Hid (∀ W, EvY W Z20 (evD 20)) := y20
      have HBW : Hid (Below w.heap.size w wr) := hbw
      clear hbw hP hs1 hI y5 y15 y20 hZ5 hZ15 hZ20
      generalize doS S (evD 5) = R1 at hend hdo hI5
      obtain ⟨S1, L1⟩ := R1
      simp only at hend hdo hI5
      go_wp2_with (first | (refine step_build rfl 50 _ rfl Z5 (by simp [Act.eval]; exact hb5) ?_) | (go_at_call 13; refine hdo.mono ?_; refine Stop9.mk ?_))
      rintro x W4 ⟨v4, rfl, _, hP4, hB4⟩
      have HB4 : Hid (Below w.heap.size w W4) := HBW.out.trans (hB4.below (Nat.le_refl _) HBW.out.size)
      have hdo2 := do_e W4 w.heap.size Z15 a S1 (evD 15) HN.out.2.2.2.2 HN.out.2.2.2.1 hI5 hP4 (Y15.out W4) (HN.out.1.on HB4.out) (HN.out.2.1.on HB4.out) HN.out.2.2.1
      have hI15 := inv_do (evD 15) HN.out.2.2.2.1 hI5
      clear hdo hb5 hP4 hB4 hI5 Y15
      generalize doS S1 (evD 15) = R2 at hend hdo2 hI15
      obtain ⟨S2, L2⟩ := R2
      simp only at hend hdo2 hI15
      go_wp2_with (first | (refine step_build rfl 50 _ rfl Z15 (by simp [Act.eval]; exact hb15) ?_) | (go_at_call 13; refine hdo2.mono ?_; refine Stop9.mk ?_))
      rintro x W5 ⟨v5, rfl, _, hP5, hB5⟩
      have HB5 : Hid (Below w.heap.size w W5) := HB4.out.trans (hB5.below (Nat.le_refl _) HB4.out.size)
      have hst := state_e W5 w.heap.size S2 hP5
      have HP5 : Hid (PvE W5 w.heap.size S2 ∧ InvS a S2) := ⟨hP5, hI15⟩
      have HE : Hid (Td S2.sta ∨ S2.sta = 1 ∧ S.sta = 4) := hend
      clear hdo2 hb15 hP5 hB5 hend
      have fon := hI15.on
      have foff := hI15.off
      clear hI15
      by_cases ht : Td S2.sta
      · obtain ⟨g1, g2⟩ := fon ht
        rw [show decide (0 < S2.left) = true by simp; omega] at hst
        obtain ⟨L, hL⟩ : ∃ L, S2.left = L := ⟨_, rfl⟩
        rw [hL] at g1 g2 hst
        obtain ⟨sta, hsta⟩ : ∃ s, S2.sta = s := ⟨_, rfl⟩
        rw [hsta] at hst
        have HT : Hid (Td S2.sta ∧ S2.left = L ∧ 1 ≤ L ∧ L ≤ a) := ⟨ht, hL, g1, g2⟩
        clear fon foff ht hL hsta HE
        go_wp2_with (go_at_call 15; refine hst.mono ?_; rintro x W6 ⟨rfl, hb6⟩)
        obtain ⟨ask, hask⟩ : ∃ b, S2.asked = b := ⟨_, rfl⟩
        rw [hask]
        obtain ⟨W7, hW7⟩ : ∃ W7, W6.alloc (.cells #[.int .i64 sta, .bool ask, .bool true, .int .i64 L] 53) = W7 := ⟨_, rfl⟩
        have hx3 : W7.cell? ⟨W6.heap.size, 3, none⟩ = some (.int .i64 L) := by rw [← hW7, cell_of_row _ _ _ _ _ _ (alloc_new W6 _)]; rfl
        have hb67 : Below W6.heap.size W6 W7 := hW7 ▸ (Below.refl _ _).alloc (Nat.le_refl _) _
        have HB7 : Hid (Below w.heap.size w W7 ∧ w.heap.size < W6.heap.size ∧ PvE W7 w.heap.size S2 ∧ W7.cell? ⟨W6.heap.size, 3, none⟩ = some (.int .i64 L)) :=
          ⟨(HB5.out.trans (hb6.mono HB5.out.size)).trans (hb67.mono (Nat.le_trans HB5.out.size hb6.size)), Nat.lt_of_lt_of_le HP5.out.1.lt hb6.size, (HP5.out.1.on hb6).on hb67, hx3⟩
        obtain ⟨BS, hBS⟩ : ∃ n : Nat, W6.heap.size = n := ⟨_, rfl⟩
        rw [hBS] at HB7 hx3
        rw [hBS]
        obtain ⟨l, hl⟩ : ∃ l : Nat, L = (l : Int) := ⟨L.toNat, by omega⟩
        subst hl
        have HL : Hid (1 ≤ l ∧ ((l : Int) ≤ a)) := ⟨by omega, g2⟩
        have hl2 : l ≤ 1000 := by have := HN.out.2.2.2.2; omega
        clear hst hb6 hb67 hask g1 g2 hjn2 hj
        have hW7' := hW7
        try rw [hW7]
        clear hW7 hx3
        go_loopw [11] (fun x wr => ∃ (i : Nat), x = .int .i64 (i : Int) ∧ i ≤ l ∧ wr.cell? ⟨BS, 3, none⟩ = some (.int .i64 (l : Int)) ∧ Hid (Below w.heap.size w wr ∧ (i < l → ∃ S, PvE wr w.heap.size S ∧ InvS a S ∧ Td S.sta ∧ S.left = (l : Int) - i))) (fun x _ => l - (intOf x).toNat)
        case atStart => exact ⟨0, rfl, by omega, HB7.out.2.2.2, HB7.out.1, fun _ => ⟨S2, HB7.out.2.2.1, HP5.out.2, HT.out.1, by rw [HT.out.2.1]; omega⟩⟩
        case round =>
          obtain ⟨i, rfl, hi, hc3, HR⟩ := hrel
          by_cases hil : i < l
          · have hil2 : ((i : Int) < (l : Int)) := by omega
            obtain ⟨hbw, S, hP, hI, ht, hlf⟩ : Below w.heap.size w wr ∧ ∃ S, PvE wr w.heap.size S ∧ InvS a S ∧ Td S.sta ∧ S.left = (l : Int) - i := ⟨HR.out.1, HR.out.2 hil⟩
            have hdo := do_e wr w.heap.size Z20 a S (evD 20) HN.out.2.2.2.2 HN.out.2.2.2.1 hI hP (Y20.out wr) (HN.out.1.on hbw) (HN.out.2.1.on hbw) HN.out.2.2.1
            have hI2 := inv_do (evD 20) HN.out.2.2.2.1 hI
            have hbs : BS < wr.heap.size := cell_lt hc3
            have HBS : Hid (BS < wr.heap.size ∧ w.heap.size < BS ∧ Below w.heap.size w wr) := ⟨hbs, HB7.out.2.1, hbw⟩
            by_cases hlast : i + 1 = l
            · have hds : doS S (evD 20) = evS { S with left := 0 } (evD 18) := by
                unfold doS
                rw [if_pos (show (evD 20).kd = 20 from rfl), if_neg (by omega), if_pos (by omega)]
              obtain ⟨x1, x2⟩ := ev_exp (S := { S with left := 0 }) ht
              rw [hds, x1, x2] at hdo
              have hli2 : ((i : Int) == (l : Int) - 1) = true := by
                have : (i : Int) = (l : Int) - 1 := by omega
                rw [this]; simp
              have hfd := fun W => field53 W 1 0 false false
              clear hds x1 x2 hI hP hI2 hbw ht hlf HR hbs
              go_wp2_with (first | (refine step_build rfl 50 _ rfl Z20 (by simp [Act.eval]; exact hb20) ?_) | (go_at_call 13; refine hdo.mono ?_; refine Stop9.mk ?_))
              rintro x W8 ⟨v8, rfl, ⟨g, c', rfl, hg1, hg2, _, _⟩, hP8, hB8⟩
              have hg0 : W8.cell? ⟨g, 0, none⟩ = some (.int .i64 4) := by rw [cell_of_row _ _ _ _ _ _ hg2]; rfl
              have hst := state_e W8 w.heap.size _ hP8
              have hc8 : W8.cell? ⟨BS, 3, none⟩ = some (.int .i64 (l : Int)) := (World.cell?_of_block (hB8.block BS HBS.out.1 (by have := HBS.out.2.1; omega))).trans hc3
              have HB8 : Hid (Below w.heap.size w W8) := HBS.out.2.2.trans (hB8.below (Nat.le_refl _) HBS.out.2.2.size)
              rw [show decide ((0 : Int) < 0) = false from rfl] at hst
              have HLAST : Hid (i + 1 = l) := hlast
              clear hdo hb20 hP8 hB8 hg1 hg2 hlast hc3
              go_wp2_with (go_at_call 15; refine hst.mono ?_; rintro x W9 ⟨rfl, hb9⟩; have hc9 := (hb9.cell (cell_lt hc8)).trans hc8; have hg9 := (hb9.cell (cell_lt hg0)).trans hg0)
              go_roundw
              case rel => exact ⟨i + 1, by go_num, by omega, hc9, HB8.out.trans (hb9.mono HB8.out.size), fun h => by have := HLAST.out; omega⟩
              case measure => simp [intOf]; omega
            · have hds : doS S (evD 20) = ({ S with left := S.left - 1 }, []) := by
                unfold doS
                rw [if_pos (show (evD 20).kd = 20 from rfl), if_neg (by omega), if_neg (by omega)]
              rw [hds] at hdo hI2
              have HS3 : Hid (InvS a { S with left := S.left - 1 } ∧ Td S.sta ∧ S.left = (l : Int) - i) := ⟨hI2, ht, hlf⟩
              have hnl : ((i : Int) == (l : Int) - 1) = false := by simp; omega
              clear hds hI hP hI2 hbw HR hbs hlf
              go_wp2_with (first | (refine step_build rfl 50 _ rfl Z20 (by simp [Act.eval]; exact hb20) ?_) | (go_at_call 13; refine hdo.mono ?_; refine Stop9.mk ?_))
              rintro x W8 ⟨v8, rfl, hAR, hP8, hB8⟩
              obtain rfl : v8 = .slice none 0 0 := hAR
              have hst := state_e W8 w.heap.size _ hP8
              have hc8 : W8.cell? ⟨BS, 3, none⟩ = some (.int .i64 (l : Int)) := (World.cell?_of_block (hB8.block BS HBS.out.1 (by have := HBS.out.2.1; omega))).trans hc3
              have HB8 : Hid (Below w.heap.size w W8 ∧ PvE W8 w.heap.size { S with left := S.left - 1 }) := ⟨HBS.out.2.2.trans (hB8.below (Nat.le_refl _) HBS.out.2.2.size), hP8⟩
              have hs1 : (S.sta == 1) = false := by
                rcases ht with h | h <;> rw [h] <;> rfl
              simp only at hst
              obtain ⟨sta', hsta'⟩ : ∃ s, S.sta = s := ⟨_, rfl⟩
              obtain ⟨asked', hasked'⟩ : ∃ s, S.asked = s := ⟨_, rfl⟩
              obtain ⟨tm', htm'⟩ : ∃ s, decide (0 < S.left - 1) = s := ⟨_, rfl⟩
              obtain ⟨lf', hlf'⟩ : ∃ s, S.left - 1 = s := ⟨_, rfl⟩
              rw [htm', hsta', hasked', hlf'] at hst
              rw [hsta'] at hs1
              have HLAST : Hid (¬ i + 1 = l) := hlast
              have hfd := fun W => field53 W sta' lf' asked' tm'
              clear hdo hb20 hP8 hB8 hlast hc3 ht hsta' hasked' htm' hlf'
              go_wp2_with (go_at_call 15; refine hst.mono ?_; rintro x W9 ⟨rfl, hb9⟩; have hc9 := (hb9.cell (cell_lt hc8)).trans hc8)
              go_roundw
              case rel => exact ⟨i + 1, by go_num, by omega, hc9, HB8.out.1.trans (hb9.mono HB8.out.1.size), fun h => ⟨_, HB8.out.2.on hb9, HS3.out.1, HS3.out.2.1, by show S.left - 1 = _; rw [HS3.out.2.2]; omega⟩⟩
              case measure => simp [intOf]; omega
          · have hil2 : ¬ ((i : Int) < (l : Int)) := by omega
            go_wp2
            go_ret
            exact ⟨rfl, HR.out.1⟩
      · have g0 : S2.left = 0 := foff ht
        obtain ⟨e1, e4⟩ : S2.sta = 1 ∧ S.sta = 4 := HE.out.resolve_left ht
        rw [show decide (0 < S2.left) = false by simp; omega, e1] at hst
        have hj0 : ((0 : Int) < (j : Int)) := by
          have := HS.out
          omega
        clear fon foff ht g0 e1 e4 HE HS
        go_wp2_with (go_at_call 15; refine hst.mono ?_; rintro x W6 ⟨rfl, hb6⟩)
        go_ret
        exact ⟨by show Ending.returned (.bool (decide (0 < j))) = _; rw [decide_eq_true (by omega)], (HB5.out.trans (hb6.mono HB5.out.size)).alloc (Nat.le_trans HB5.out.size hb6.size) _⟩
end Go.Proofs.YtiieikdbhpflgaaDoor
