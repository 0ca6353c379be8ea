import Derived.Test.YtiieikdbhpflgaaDoorS
import Derived.Test.YtiieikdbhpflgaaDoorQ
/-
  DERIVED. The law of providers that New did not give.
-/
namespace Go.Proofs.YtiieikdbhpflgaaDoor
open Go Go.Proofs Go.RowKit

set_option maxRecDepth 100000 in
theorem new_one (w : World) : Calls Tryd.prog 12 #[.int .i64 1] w fun e w' => e = .returned (.tuple #[.pointer (some ⟨w.heap.size, 0, none⟩), .nilIface]) ∧ Below w.heap.size w w' ∧ Pv w' w.heap.size 1 0 1 false ∧ ∀ i, w'.frozen? ⟨w.heap.size, i, none⟩ = false := by
  go_enter Tryd.func12, Tryd.ntmps12
  go_wp2
  refine bodyPost_ret (v := .tuple #[.pointer (some ⟨w.heap.size, 0, none⟩), .nilIface]) (by simp [results, Tryd.results12, go_sem]) rfl ⟨rfl, (Below.refl _ _).alloc (Nat.le_refl _) _, ?_, fun i => by simp⟩
  refine ⟨?_, ?_, ?_, ?_⟩ <;> simp

theorem state_nil (w : World) : Calls Tryd.prog 15 #[.pointer none] w fun e w' => e = .returned (.agg #[.int .i64 0, .bool false, .bool false, .int .i64 0]) ∧ Below w.heap.size w w' := by
  go_enter Tryd.func15, Tryd.ntmps15
  go_wp2
  exact bodyPost_ret (v := .agg #[.int .i64 0, .bool false, .bool false, .int .i64 0]) (by simp [results, Tryd.results15, go_sem]) rfl ⟨rfl, (Below.refl _ _).alloc (Nat.le_refl _) _⟩

/-- Events that can be read. -/
def Evs (w : World) (v : Value) (n : Nat) : Prop := ∃ ao cap, v = .slice ao n cap ∧ (0 < n → ∃ b off, ao = some ⟨b, off, none⟩ ∧ ∀ i, i < n → ∃ EV kd k1 c1 k2 c2, w.rangeAt b (off + i * 41) EV.toList ∧ EvOK w EV kd k1 c1 k2 c2)

theorem range_on {w w' : World} {b o : Nat} {cs : List Value} (h : w.rangeAt b o cs) (hb : Below w.heap.size w w') : w'.rangeAt b o cs := fun j v hv => (hb.cell (cell_lt (h j v hv))).trans (h j v hv)
theorem EvOK.on {w w' : World} {EV : Array Value} {kd k1 k2 : Int} {c1 c2 : Fin 18 → Value} (h : EvOK w EV kd k1 c1 k2 c2) (hb : Below w.heap.size w w') : EvOK w' EV kd k1 c1 k2 c2 :=
  ⟨h.sz, h.kd, h.one, h.pdu, h.ans, h.r1.on hb, h.r2.on hb⟩

set_option maxRecDepth 100000 in
set_option maxHeartbeats 4000000 in
theorem nobody_nil (w : World) (v : Value) (n : Nat) (hn : n ≤ 140737488351232) (hv : Evs w v n) (hT : Tb w) (hN : w.cell? ⟨2, 5, none⟩ = some (.int .u8 0)) :
    Calls Tryd.prog 4 #[.bool false, v] w fun x w' => x = .returned (.bool true) ∧ Below w.heap.size w w' := by
  obtain ⟨ao, cap, rfl, hel⟩ := hv
  have HEl : Hid (0 < n → ∃ b off, ao = some ⟨b, off, none⟩ ∧ ∀ i, i < n → ∃ EV kd k1 c1 k2 c2, w.rangeAt b (off + i * 41) EV.toList ∧ EvOK w EV kd k1 c1 k2 c2) := hel
  clear hel
  obtain ⟨fs, hu⟩ := hu50
  have HN : Hid (Tb w ∧ w.cell? ⟨2, 5, none⟩ = some (.int .u8 0)) := ⟨hT, hN⟩
  go_enter Tryd.func4, Tryd.ntmps4
  go_wp2_with (first | (go_at_call 12; refine (new_one _).mono ?_; rintro x W1 ⟨rfl, hb1, hp1, hf1⟩) | (go_at_call 13; refine (do_opened W1 w.heap.size _ rfl rfl (HN.out.1.on hb1) ((hb1.cell (cell_lt HN.out.2)).trans HN.out.2) hp1 hf1).mono ?_; rintro x W2 ⟨⟨v2, rfl⟩, hb2⟩))
  have hb2' : Below w.heap.size w W2 := hb1.trans hb2
  have HB2 : Hid (Below w.heap.size w W2) := hb2'
  clear hb1 hp1 hf1 hb2 hb2' hT hN
  go_loopw [8] (fun x wr => ∃ (j : Nat), x = .int .i64 (j : Int) ∧ j ≤ n ∧ Hid (Below w.heap.size w wr) ) (fun x _ => n - (intOf x).toNat)
  case atStart => exact ⟨0, rfl, by omega, HB2⟩
  case round =>
    clear HB2
    obtain ⟨j, rfl, hj, HB⟩ := hrel
    by_cases hjn : j < n
    · have hjn2 : ((j : Int) < (n : Int)) := by omega
      obtain ⟨b, off, hao, hE⟩ := HEl.out (by omega)
      subst hao
      obtain ⟨EV, kd, k1, c1, k2, c2, hr0, hev0⟩ := hE j hjn
      have hr := range_on hr0 HB.out
      have hev := hev0.on HB.out
      have hsz : (Tryd.prog.info? 50).map (·.size) = some EV.toList.length := by rw [Array.length_toList, hev.sz]; exact size50
      have hln := lend_ev wr EV kd k1 k2 c1 c2 hev
      clear hE hr0 hev0
      go_wp2_with (first | (refine wpList_load_mid rfl 50 (.tmp 38) rfl b (off + j * 41) rfl EV.toList _ hr hu rfl hsz ?_) | (go_at_call 14; refine hln.mono ?_; rintro x W3 ⟨Q, rfl, hQs, hQ0, hb3⟩) | (go_at_call 13; (refine (do_nil W3 Q).mono ?_; rintro x W4 ⟨rfl, hb4⟩)))
      go_roundw
      case rel => exact ⟨j + 1, by go_num, by omega, (HB.out.trans (hb3.mono HB.out.size)).trans (hb4.mono (Nat.le_trans HB.out.size hb3.size))⟩
      case measure => simp [intOf]; omega
    · have hjn2 : ¬ ((j : Int) < (n : Int)) := by omega
      go_wp2_with (go_at_call 15; (refine (state_nil wr).mono ?_; rintro x W5 ⟨rfl, hb5⟩))
      go_ret
      exact ⟨rfl, HB.out.trans (hb5.mono HB.out.size)⟩

set_option maxRecDepth 100000 in
set_option maxHeartbeats 4000000 in
theorem nobody_plain (w : World) (v : Value) (n : Nat) (hn : n ≤ 140737488351232) (hv : Evs w v n) (hT : Tb w) (hN : w.cell? ⟨2, 5, none⟩ = some (.int .u8 0)) :
    Calls Tryd.prog 4 #[.bool true, v] w fun x w' => x = .returned (.bool true) ∧ Below w.heap.size w w' := by
  obtain ⟨ao, cap, rfl, hel⟩ := hv
  have HEl : Hid (0 < n → ∃ b off, ao = some ⟨b, off, none⟩ ∧ ∀ i, i < n → ∃ EV kd k1 c1 k2 c2, w.rangeAt b (off + i * 41) EV.toList ∧ EvOK w EV kd k1 c1 k2 c2) := hel
  clear hel
  obtain ⟨fs, hu⟩ := hu50
  have HN : Hid (Tb w ∧ w.cell? ⟨2, 5, none⟩ = some (.int .u8 0)) := ⟨hT, hN⟩
  obtain ⟨W0, hW0⟩ : ∃ W0, w.alloc (.cells #[.int .i64 0, .int .i64 0, .int .i64 0, .bool false, .int .i64 0, .int .u16 0, .string ⟨#[]⟩, .string ⟨#[]⟩, .string ⟨#[]⟩, .slice none 0 0, .bool false, .int .u32 0, .string ⟨#[]⟩, .string ⟨#[]⟩, .bool false, .int .u16 0, .int .u16 0, .slice none 0 0, .slice none 0 0, .int .u8 0, .int .u8 0, .int .u8 0, .slice none 0 0] 42) = W0 := ⟨_, rfl⟩
  have hb0 : Below w.heap.size w W0 := hW0 ▸ (Below.refl _ _).alloc (Nat.le_refl _) _
  have hp0 : Pv W0 w.heap.size 0 0 0 false := by rw [← hW0]; exact ⟨by simp, by simp, by simp, by simp⟩
  have hs0 : w.heap.size < W0.heap.size := cell_lt hp0.1
  go_enter Tryd.func4, Tryd.ntmps4
  go_wp2_with (first | (go_at_call 12; refine (new_one _).mono ?_; rintro x W1 ⟨rfl, hb1, hp1, hf1⟩) | (go_at_call 13; refine (do_opened W1 W0.heap.size _ rfl rfl (HN.out.1.on (hb0.trans (hb1.mono hb0.size))) (((hb0.trans (hb1.mono hb0.size)).cell (cell_lt HN.out.2)).trans HN.out.2) hp1 hf1).mono ?_; rintro x W2 ⟨⟨v2, rfl⟩, hb2⟩))
  have hb2' : Below w.heap.size w W2 := (hb0.trans (hb1.mono hb0.size)).trans (hb2.mono hb0.size)
  have HP2 : Hid (Pv W2 w.heap.size 0 0 0 false) := by
    have h1 := hp0.on hb1
    exact ⟨(hb2.cell (p := ⟨w.heap.size, 0, none⟩) hs0).trans h1.1, (hb2.cell (p := ⟨w.heap.size, 1, none⟩) hs0).trans h1.2.1, (hb2.cell (p := ⟨w.heap.size, 2, none⟩) hs0).trans h1.2.2.1, (hb2.cell (p := ⟨w.heap.size, 3, none⟩) hs0).trans h1.2.2.2⟩
  have HB2 : Hid (Below w.heap.size w W2) := hb2'
  clear hb1 hp1 hf1 hb2 hp0 hs0 hb0 hb2' hT hN
  go_loopw [8] (fun x wr => ∃ (j : Nat), x = .int .i64 (j : Int) ∧ j ≤ n ∧ Hid (Below w.heap.size w wr) ∧ Hid (Pv wr w.heap.size 0 0 0 false) ) (fun x _ => n - (intOf x).toNat)
  case atStart => exact ⟨0, rfl, by omega, HB2, HP2⟩
  case round =>
    clear HB2 HP2
    obtain ⟨j, rfl, hj, HB, HP⟩ := hrel
    by_cases hjn : j < n
    · have hjn2 : ((j : Int) < (n : Int)) := by omega
      obtain ⟨b, off, hao, hE⟩ := HEl.out (by omega)
      subst hao
      obtain ⟨EV, kd, k1, c1, k2, c2, hr0, hev0⟩ := hE j hjn
      have hr := range_on hr0 HB.out
      have hev := hev0.on HB.out
      have hsz : (Tryd.prog.info? 50).map (·.size) = some EV.toList.length := by rw [Array.length_toList, hev.sz]; exact size50
      have hln := lend_ev wr EV kd k1 k2 c1 c2 hev
      clear hE hr0 hev0
      go_wp2_with (first | (refine wpList_load_mid rfl 50 (.tmp 38) rfl b (off + j * 41) rfl EV.toList _ hr hu rfl hsz ?_) | (go_at_call 14; refine hln.mono ?_; rintro x W3 ⟨Q, rfl, hQs, hQ0, hb3⟩) | (go_at_call 13; (have hpx := HP.out.on hb3; refine (do_plain W3 w.heap.size Q kd hQ0 (HN.out.1.on (HB.out.trans (hb3.mono HB.out.size))) hpx.2.1 hpx.2.2.1).mono ?_; rintro x W4 ⟨rfl, hb4⟩)))
      go_roundw
      case rel => exact ⟨j + 1, by go_num, by omega, (HB.out.trans (hb3.mono HB.out.size)).trans (hb4.mono (Nat.le_trans HB.out.size hb3.size)), (HP.out.on hb3).on hb4⟩
      case measure => simp [intOf]; omega
    · have hjn2 : ¬ ((j : Int) < (n : Int)) := by omega
      go_wp2_with (go_at_call 15; (refine (state_any wr w.heap.size 0 0 0 false HP.out).mono ?_; rintro x W5 ⟨rfl, hb5⟩))
      go_ret
      exact ⟨rfl, HB.out.trans (hb5.mono HB.out.size)⟩

end Go.Proofs.YtiieikdbhpflgaaDoor
