import Derived.Test.YtilkogodhjnemaaGreatDoorBc
import Derived.Test.YtilkogodhjnemaaGreatDoorBg
import Derived.Test.YtilkogodhjnemaaGreatDoorEb
import Derived.Deep.RegionHeld3
/-
  DERIVED. How many bytes nodes have: the program's count.
-/
namespace Go.Proofs.YtilkogodhjnemaaGreatDoor
open Go Go.Proofs Go.RowKit
open Wk (Nd NV goN)

theorem sz1_le (x : Bool) (a : Nd) (h : a.s.size ≤ 65534) : (encOf x).sz1 a ≤ 65600 := by
  unfold Enc.sz1
  rw [encOf_pv, pvL_len]
  have : (encOf x).hs a ≤ 12 := by
    cases x with
    | false => show 8 ≤ 12; omega
    | true => show (if Rp.lo (Rp.vn a.v) = true then 12 else 8) ≤ 12; split <;> omega
  split <;> omega

set_option maxRecDepth 100000 in
set_option maxHeartbeats 4000000 in
theorem szI_any (w : World) (a : Option Addr) (n cap : Nat) (L : List Nd) (hV : NV w a n cap L) (hT : TagsOk L) (hn : n ≤ 4096) (hs : ∀ x ∈ L, x.s.size ≤ 65534) :
    Calls Tryz.prog 17 #[.slice a n cap, .iface 68 (.agg #[])] w fun e w' => e = .returned (.int .i64 (encI.szP L : Int)) ∧ Below w.heap.size w w' := by
  have HV : Hid (NV w a n cap L) := hV
  have HT : Hid (TagsOk L) := hT
  have HS : Hid (∀ x ∈ L, x.s.size ≤ 65534) := hs
  have HN : Hid (n = L.length) := hV.len
  have m1 := mI_hs
  have m2 := mI_un
  clear hV hT hs
  go_enter Tryz.func17, Tryz.ntmps17
  go_wp2
  go_loopw [5, 10] (fun x5 x10 wr => ∃ i k : Nat, x10 = .int .i64 (i : Int) ∧ x5 = .int .i64 (k : Int) ∧ i ≤ n ∧ k ≤ i * 65600 ∧ Hid (encI.szP (L.take i) = k ∧ Below w.heap.size w wr)) (fun _ x10 _ => n - (intOf x10).toNat)
  case atStart => exact ⟨0, 0, rfl, rfl, by omega, by omega, by simp [Enc.szP], Below.refl _ _⟩
  case round =>
    obtain ⟨i, k, rfl, rfl, hin, hk, HI⟩ := hrel
    by_cases hlt : i < n
    · have hltI : decide ((i : Int) < (n : Int)) = true := by simp; omega
      obtain ⟨b, off, hl, rfl, e0, e1, e2, e3⟩ := NV.cells (HV.out.on HI.out.2) hlt
      have htg := HT.out _ (List.getElem_mem hl)
      have hss := HS.out _ (List.getElem_mem hl)
      have HX : Hid (encI.szP (L.take (i + 1)) = k + encI.sz1 (L[i]'hl)) := by show _ = _; rw [Enc.szP_snoc encI hl, HI.out.1]
      have hL1 : encI.sz1 (L[i]'hl) ≤ 65600 := sz1_le false _ hss
      generalize L[i]'hl = q at e0 e1 e2 e3 htg hss HX hL1
      obtain ⟨t, v, z, s⟩ := q
      simp only at e0 e1 e2 e3 htg hss
      obtain ⟨tn, rfl⟩ : ∃ tn : Nat, t = (tn : Int) := ⟨t.toNat, by omega⟩
      have htn : tn < 4294967296 := by omega
      obtain ⟨un, hun⟩ : ∃ un, encI.und ⟨(tn : Int), v, z, s⟩ = un := ⟨_, rfl⟩
      obtain ⟨hh, hhh⟩ : ∃ hh, encI.hs ⟨(tn : Int), v, z, s⟩ = hh := ⟨_, rfl⟩
      have HY : Hid (encI.sz1 ⟨(tn : Int), v, z, s⟩ = hh + (s.size + s.size % 2) + (if un = true then 8 else 0)) := by show encI.hs ⟨(tn : Int), v, z, s⟩ + (pvL v s).length + _ = _; rw [pvL_len, hun, hhh]
      have cu := fun W => unI_ok W tn htn v z s un hun
      have ch := fun W => hsI_ok W (tn : Int) v z s hh hhh
      obtain ⟨k2, hk2⟩ : ∃ k2 : Nat, k + (hh + (s.size + s.size % 2)) = k2 := ⟨_, rfl⟩
      have hk2l : k2 + (if un = true then 8 else 0) ≤ (i + 1) * 65600 := by have := HY.out; omega
      have HE : Hid (encI.szP (L.take (i + 1)) = k2 + (if un = true then 8 else 0)) := by show _ = _; rw [HX.out, HY.out]; omega
      have hK : IntKind.i64.wrap ((k : Int) + IntKind.i64.wrap (IntKind.i64.wrap ((hh : Int) + (s.size : Int)) + Int.tmod (s.size : Int) 2)) = (k2 : Int) := by
        have hr0 : 0 ≤ (s.size : Int) % 2 ∧ (s.size : Int) % 2 < 2 := by omega
        rw [Int.tmod_eq_emod_of_nonneg (by omega), Go.IntWalk.i64_in ((hh : Int) + (s.size : Int)) (by omega), Go.IntWalk.i64_in ((hh : Int) + (s.size : Int) + _) (by omega), Go.IntWalk.i64_in _ (by omega)]
        omega
      have HK : Hid _ := hK
      have HK2 : Hid (k2 ≤ 300000000) := by show _ ≤ _; split at hk2l <;> omega
      have HKL : Hid _ := hk2l
      clear hun htg hhh HX HY hL1 hk2 hK hk2l
      obtain ⟨W1, hW1⟩ : ∃ W1, wr.alloc (.cells #[.int .u32 (tn : Int), .int .i64 v, .int .i64 z, .string s] 47) = W1 := ⟨_, rfl⟩
      have hb1 : Below wr.heap.size wr W1 := by rw [← hW1]; exact (Below.refl _ _).alloc (Nat.le_refl _) _
      have HN1 : Hid (NC W1 wr.heap.size (tn : Int) v z s) := by rw [← hW1]; exact ⟨by simp, by simp, by simp, by simp⟩
      have HB1 : Hid (Below w.heap.size w W1) := HI.out.2.trans (hb1.mono HI.out.2.size)
      obtain ⟨y0, y1, y2, y3⟩ := HN1.out
      clear hb1
      go_wp2
      clear hW1
      go_region_held3 (fun w' => w'.cell? ⟨wr.heap.size, 0, none⟩ = some (.int .u32 (tn : Int)) ∧ w'.cell? ⟨wr.heap.size, 1, none⟩ = some (.int .i64 v) ∧ w'.cell? ⟨wr.heap.size, 2, none⟩ = some (.int .i64 z) ∧ w'.cell? ⟨wr.heap.size, 3, none⟩ = some (.string s)) (first | (go_keep; done) | exact ⟨by assumption, by assumption, by assumption, by assumption⟩) (first | (go_at_call 215; refine Calls.mono (ch _) ?_; rintro e W2 ⟨rfl, hb2⟩; have u0 : W2.cell? ⟨wr.heap.size, 0, none⟩ = some (.int .u32 (tn : Int)) := (hb2.cell (p := ⟨wr.heap.size, 0, none⟩) (Rp.cell_lt y0)).trans y0; have u1 : W2.cell? ⟨wr.heap.size, 1, none⟩ = some (.int .i64 v) := (hb2.cell (p := ⟨wr.heap.size, 1, none⟩) (Rp.cell_lt y1)).trans y1; have u2 : W2.cell? ⟨wr.heap.size, 2, none⟩ = some (.int .i64 z) := (hb2.cell (p := ⟨wr.heap.size, 2, none⟩) (Rp.cell_lt y2)).trans y2; have u3 : W2.cell? ⟨wr.heap.size, 3, none⟩ = some (.string s) := (hb2.cell (p := ⟨wr.heap.size, 3, none⟩) (Rp.cell_lt y3)).trans y3))
      rw [HK.out]
      have HB2 : Hid (Below w.heap.size w W2) := HB1.out.drew.trans (hb2.mono HB1.out.drew.size)
      have hk2u := HK2.out
      clear hb2 y0 y1 y2 y3
      cases un with
      | false =>
        go_wp2_with (first | (go_at_call 216; refine Calls.mono (cu _) ?_; rintro e W3 ⟨rfl, hb3⟩) | fail)
        go_roundw
        case rel => exact ⟨i + 1, k2, by go_num, rfl, by omega, by have := HKL.out; simp at this; omega, by rw [HE.out]; simp, HB2.out.trans (hb3.mono HB2.out.size)⟩
        case measure => simp [intOf]; omega
      | true =>
        go_wp2_with (first | (go_at_call 216; refine Calls.mono (cu _) ?_; rintro e W3 ⟨rfl, hb3⟩) | fail)
        go_roundw
        case rel => exact ⟨i + 1, k2 + 8, by go_num, by go_num, by omega, by have := HKL.out; simp at this; omega, by rw [HE.out]; simp, HB2.out.trans (hb3.mono HB2.out.size)⟩
        case measure => simp [intOf]; omega
    · obtain rfl : i = n := by omega
      have hltI : decide ((i : Int) < (i : Int)) = false := by simp
      have HE : Hid (encI.szP L = k) := by have := HI.out.1; rw [HN.out, List.take_length] at this; exact this
      go_wp2
      go_ret
      exact ⟨by rw [HE.out]; rfl, HI.out.2⟩
set_option maxRecDepth 100000 in
set_option maxHeartbeats 4000000 in
theorem szE_any (w : World) (a : Option Addr) (n cap : Nat) (L : List Nd) (hV : NV w a n cap L) (hT : TagsOk L) (hn : n ≤ 4096) (hs : ∀ x ∈ L, x.s.size ≤ 65534) :
    Calls Tryz.prog 17 #[.slice a n cap, .iface 69 (.agg #[])] w fun e w' => e = .returned (.int .i64 (encE.szP L : Int)) ∧ Below w.heap.size w w' := by
  have HV : Hid (NV w a n cap L) := hV
  have HT : Hid (TagsOk L) := hT
  have HS : Hid (∀ x ∈ L, x.s.size ≤ 65534) := hs
  have HN : Hid (n = L.length) := hV.len
  have m1 := mE_hs
  have m2 := mE_un
  clear hV hT hs
  go_enter Tryz.func17, Tryz.ntmps17
  go_wp2
  go_loopw [5, 10] (fun x5 x10 wr => ∃ i k : Nat, x10 = .int .i64 (i : Int) ∧ x5 = .int .i64 (k : Int) ∧ i ≤ n ∧ k ≤ i * 65600 ∧ Hid (encE.szP (L.take i) = k ∧ Below w.heap.size w wr)) (fun _ x10 _ => n - (intOf x10).toNat)
  case atStart => exact ⟨0, 0, rfl, rfl, by omega, by omega, by simp [Enc.szP], Below.refl _ _⟩
  case round =>
    obtain ⟨i, k, rfl, rfl, hin, hk, HI⟩ := hrel
    by_cases hlt : i < n
    · have hltI : decide ((i : Int) < (n : Int)) = true := by simp; omega
      obtain ⟨b, off, hl, rfl, e0, e1, e2, e3⟩ := NV.cells (HV.out.on HI.out.2) hlt
      have htg := HT.out _ (List.getElem_mem hl)
      have hss := HS.out _ (List.getElem_mem hl)
      have HX : Hid (encE.szP (L.take (i + 1)) = k + encE.sz1 (L[i]'hl)) := by show _ = _; rw [Enc.szP_snoc encE hl, HI.out.1]
      have hL1 : encE.sz1 (L[i]'hl) ≤ 65600 := sz1_le true _ hss
      generalize L[i]'hl = q at e0 e1 e2 e3 htg hss HX hL1
      obtain ⟨t, v, z, s⟩ := q
      simp only at e0 e1 e2 e3 htg hss
      obtain ⟨tn, rfl⟩ : ∃ tn : Nat, t = (tn : Int) := ⟨t.toNat, by omega⟩
      have htn : tn < 4294967296 := by omega
      obtain ⟨un, hun⟩ : ∃ un, encE.und ⟨(tn : Int), v, z, s⟩ = un := ⟨_, rfl⟩
      obtain ⟨hh, hhh⟩ : ∃ hh, encE.hs ⟨(tn : Int), v, z, s⟩ = hh := ⟨_, rfl⟩
      have HY : Hid (encE.sz1 ⟨(tn : Int), v, z, s⟩ = hh + (s.size + s.size % 2) + (if un = true then 8 else 0)) := by show encE.hs ⟨(tn : Int), v, z, s⟩ + (pvL v s).length + _ = _; rw [pvL_len, hun, hhh]
      have cu := fun W => unE_ok W tn htn v z s un hun
      have ch := fun W => hsE_ok W (tn : Int) v z s hh hhh
      obtain ⟨k2, hk2⟩ : ∃ k2 : Nat, k + (hh + (s.size + s.size % 2)) = k2 := ⟨_, rfl⟩
      have hk2l : k2 + (if un = true then 8 else 0) ≤ (i + 1) * 65600 := by have := HY.out; omega
      have HE : Hid (encE.szP (L.take (i + 1)) = k2 + (if un = true then 8 else 0)) := by show _ = _; rw [HX.out, HY.out]; omega
      have hK : IntKind.i64.wrap ((k : Int) + IntKind.i64.wrap (IntKind.i64.wrap ((hh : Int) + (s.size : Int)) + Int.tmod (s.size : Int) 2)) = (k2 : Int) := by
        have hr0 : 0 ≤ (s.size : Int) % 2 ∧ (s.size : Int) % 2 < 2 := by omega
        rw [Int.tmod_eq_emod_of_nonneg (by omega), Go.IntWalk.i64_in ((hh : Int) + (s.size : Int)) (by omega), Go.IntWalk.i64_in ((hh : Int) + (s.size : Int) + _) (by omega), Go.IntWalk.i64_in _ (by omega)]
        omega
      have HK : Hid _ := hK
      have HK2 : Hid (k2 ≤ 300000000) := by show _ ≤ _; split at hk2l <;> omega
      have HKL : Hid _ := hk2l
      clear hun htg hhh HX HY hL1 hk2 hK hk2l
      obtain ⟨W1, hW1⟩ : ∃ W1, wr.alloc (.cells #[.int .u32 (tn : Int), .int .i64 v, .int .i64 z, .string s] 47) = W1 := ⟨_, rfl⟩
      have hb1 : Below wr.heap.size wr W1 := by rw [← hW1]; exact (Below.refl _ _).alloc (Nat.le_refl _) _
      have HN1 : Hid (NC W1 wr.heap.size (tn : Int) v z s) := by rw [← hW1]; exact ⟨by simp, by simp, by simp, by simp⟩
      have HB1 : Hid (Below w.heap.size w W1) := HI.out.2.trans (hb1.mono HI.out.2.size)
      obtain ⟨y0, y1, y2, y3⟩ := HN1.out
      clear hb1
      go_wp2
      clear hW1
      go_region_held3 (fun w' => w'.cell? ⟨wr.heap.size, 0, none⟩ = some (.int .u32 (tn : Int)) ∧ w'.cell? ⟨wr.heap.size, 1, none⟩ = some (.int .i64 v) ∧ w'.cell? ⟨wr.heap.size, 2, none⟩ = some (.int .i64 z) ∧ w'.cell? ⟨wr.heap.size, 3, none⟩ = some (.string s)) (first | (go_keep; done) | exact ⟨by assumption, by assumption, by assumption, by assumption⟩) (first | (go_at_call 220; refine Calls.mono (ch _) ?_; rintro e W2 ⟨rfl, hb2⟩; have u0 : W2.cell? ⟨wr.heap.size, 0, none⟩ = some (.int .u32 (tn : Int)) := (hb2.cell (p := ⟨wr.heap.size, 0, none⟩) (Rp.cell_lt y0)).trans y0; have u1 : W2.cell? ⟨wr.heap.size, 1, none⟩ = some (.int .i64 v) := (hb2.cell (p := ⟨wr.heap.size, 1, none⟩) (Rp.cell_lt y1)).trans y1; have u2 : W2.cell? ⟨wr.heap.size, 2, none⟩ = some (.int .i64 z) := (hb2.cell (p := ⟨wr.heap.size, 2, none⟩) (Rp.cell_lt y2)).trans y2; have u3 : W2.cell? ⟨wr.heap.size, 3, none⟩ = some (.string s) := (hb2.cell (p := ⟨wr.heap.size, 3, none⟩) (Rp.cell_lt y3)).trans y3))
      rw [HK.out]
      have HB2 : Hid (Below w.heap.size w W2) := HB1.out.drew.trans (hb2.mono HB1.out.drew.size)
      have hk2u := HK2.out
      clear hb2 y0 y1 y2 y3
      cases un with
      | false =>
        go_wp2_with (first | (go_at_call 221; refine Calls.mono (cu _) ?_; rintro e W3 ⟨rfl, hb3⟩) | fail)
        go_roundw
        case rel => exact ⟨i + 1, k2, by go_num, rfl, by omega, by have := HKL.out; simp at this; omega, by rw [HE.out]; simp, HB2.out.trans (hb3.mono HB2.out.size)⟩
        case measure => simp [intOf]; omega
      | true =>
        go_wp2_with (first | (go_at_call 221; refine Calls.mono (cu _) ?_; rintro e W3 ⟨rfl, hb3⟩) | fail)
        go_roundw
        case rel => exact ⟨i + 1, k2 + 8, by go_num, by go_num, by omega, by have := HKL.out; simp at this; omega, by rw [HE.out]; simp, HB2.out.trans (hb3.mono HB2.out.size)⟩
        case measure => simp [intOf]; omega
    · obtain rfl : i = n := by omega
      have hltI : decide ((i : Int) < (i : Int)) = false := by simp
      have HE : Hid (encE.szP L = k) := by have := HI.out.1; rw [HN.out, List.take_length] at this; exact this
      go_wp2
      go_ret
      exact ⟨by rw [HE.out]; rfl, HI.out.2⟩
end Go.Proofs.YtilkogodhjnemaaGreatDoor
