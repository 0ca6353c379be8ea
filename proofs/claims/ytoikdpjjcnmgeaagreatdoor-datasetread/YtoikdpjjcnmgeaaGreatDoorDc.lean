import Derived.Test.YtoikdpjjcnmgeaaGreatDoorNa
import Derived.Test.YtoikdpjjcnmgeaaGreatDoorBn
import Derived.Deep.RegionHeld3
import Derived.Test.YtoikdpjjcnmgeaaGreatDoorBk
section
/-
  DERIVED. How many bytes elements have: the document's count.
-/
namespace Go.Proofs.YtoikdpjjcnmgeaaGreatDoor
open Go Go.Proofs Go.RowKit
open Wk (Nd NV goN nxt)

theorem hs_le (x : Bool) (a : Nd) : (encOf x).hs a ≤ 12 := by
  cases x with
  | false => show 8 ≤ 12; omega
  | true => show (if Rp.lo (Rp.vn a.v) = true then 12 else 8) ≤ 12; split <;> omega
theorem szD_le (x : Bool) : ∀ (f : Nat) (b : Bool) (M : List Nd), Good M → (encOf x).szD f b M ≤ M.length * 65600
  | 0, b, M, _ => by cases b <;> exact Nat.zero_le _
  | f + 1, b, [], _ => by cases b <;> exact Nat.zero_le _
  | f + 1, false, a :: r, hg => by
    have hr : Good r := fun y hy => hg y (List.mem_cons_of_mem _ hy)
    have h1 := szD_le x f true (r.take (goN r a.n.toNat)) (hr.take _)
    have h2 := szD_le x f false (r.drop (goN r a.n.toNat)) (hr.drop _)
    have hs := hs_le x a
    have hp : ((encOf x).pv a).length ≤ 65536 := by rw [encOf_pv, pvL_len]; have := (hg a List.mem_cons_self).2.1; omega
    have hl := Wk.goN_le r a.n.toNat
    rw [List.length_take, Nat.min_eq_left hl] at h1
    rw [List.length_drop] at h2
    rw [Enc.szD, List.length_cons]
    split <;> (try split) <;> omega
  | f + 1, true, a :: r, hg => by
    have hr : Good r := fun y hy => hg y (List.mem_cons_of_mem _ hy)
    have h1 := szD_le x f false (r.take (goN r a.n.toNat)) (hr.take _)
    have h2 := szD_le x f true (r.drop (goN r a.n.toNat)) (hr.drop _)
    have hl := Wk.goN_le r a.n.toNat
    rw [List.length_take, Nat.min_eq_left hl] at h1
    rw [List.length_drop] at h2
    rw [Enc.szD, List.length_cons]
    omega
theorem und_open (x : Bool) {a : Nd} (hv : a.v = 18) : (encOf x).und a = (!x && !(fnd a).isSome) := by
  cases x with
  | false => show (decide (a.v = 18) && !(fnd a).isSome) = _; rw [decide_eq_true hv]; rfl
  | true => rfl
theorem hs_if (x : Bool) (a : Nd) : (if (x && Rp.lo (Rp.vn a.v)) = true then 12 else 8) = (encOf x).hs a := by cases x <;> rfl
theorem good_sub {L : List Nd} (h : Good L) (i e : Nat) : Good (sub L i e) := fun x hx => h x (sub_mem hx)
/-- A list that may be counted. -/
structure Ls (W : World) (a : Option Addr) (n cap : Nat) (L : List Nd) : Prop where
  nv : NV W a n cap L
  tg : TagsOk L
  gd : Good L
  n40 : n ≤ 4096
def RsC (m : Nat) : Prop := ∀ (W : World) (a : Option Addr) (n cap : Nat) (L : List Nd) (x : Bool) (i e : Nat), e - i ≤ m → Ls W a n cap L → i ≤ e → e ≤ n → Lev L i e →
  Calls Tryz.prog 55 #[.slice a n cap, .int .i64 (i : Int), .int .i64 (e : Int), .bool x] W fun r W' => r = .returned (.int .i64 ((encOf x).sD false (sub L i e) : Int)) ∧ Below W.heap.size W W'

set_option maxRecDepth 100000 in
set_option maxHeartbeats 8000000 in
theorem rs_step (m : Nat) (hm : ∀ q, q < m → RsC q) : RsC m := by
  intro W a n cap L x i e hem hV hie hen hlev
  have HM : Hid (∀ (W : World) (a : Option Addr) (n cap : Nat) (L : List Nd) (x : Bool) (i e : Nat), e - i < m → Ls W a n cap L → i ≤ e → e ≤ n → Lev L i e → Calls Tryz.prog 55 #[.slice a n cap, .int .i64 (i : Int), .int .i64 (e : Int), .bool x] W fun r W' => r = .returned (.int .i64 ((encOf x).sD false (sub L i e) : Int)) ∧ Below W.heap.size W W') := fun W a n cap L x i e h => hm (e - i) h W a n cap L x i e (Nat.le_refl _)
  have HV : Hid (Ls W a n cap L) := hV
  have HN : Hid (n = L.length) := hV.nv.len
  have hn40 := hV.n40
  obtain ⟨T, hT⟩ : ∃ T, (encOf x).sD false (sub L i e) = T := ⟨_, rfl⟩
  have hTl : T ≤ 300000000 := by
    have h1 := szD_le x (sub L i e).length false (sub L i e) (good_sub hV.gd _ _)
    have h2 : (encOf x).szD (sub L i e).length false (sub L i e) = T := hT
    rw [sub_len (by have := hV.nv.len; omega)] at h1 h2
    rw [h2] at h1
    omega
  have HTL : Hid (T ≤ 300000000) := hTl
  rw [hT]
  have HT : Hid (Lev L i e ∧ (encOf x).sD false (sub L i e) = T) := ⟨hlev, hT⟩
  clear hm hV hlev hT
  go_enter Tryz.func55, Tryz.ntmps55
  go_wp2
  go_loopw [1, 9] (fun x1 x9 wr => ∃ p k : Nat, x1 = .int .i64 (p : Int) ∧ x9 = .int .i64 (k : Int) ∧ i ≤ p ∧ p ≤ e ∧ k ≤ 300000000 ∧ Hid (Lev L p e ∧ k + (encOf x).sD false (sub L p e) = T ∧ Below W.heap.size W wr)) (fun x1 _ _ => n - (intOf x1).toNat)
  case atStart => exact ⟨i, 0, rfl, rfl, Nat.le_refl _, hie, by omega, HT.out.1, by rw [HT.out.2]; omega, Below.refl _ _⟩
  case round =>
    obtain ⟨p, k, rfl, rfl, hip, hpe, hk, HI⟩ := hrel
    by_cases hlt : p < e
    · have hltI : (p : Int) < (e : Int) := by omega
      have hpL : p < L.length := by rw [← HN.out]; omega
      have heL : e ≤ L.length := by rw [← HN.out]; exact hen
      have hnv := HV.out.nv.on HI.out.2.2
      have cn := Wk.nextR_in wr a n cap p L hnv (by omega) (by omega)
      obtain ⟨h1, h2, h3, h4, -⟩ := HI.out.1.next hlt heL
      have HSE := (encOf x).sD_elem HI.out.1 hlt heL
      obtain ⟨nx, hnx⟩ : ∃ nx, nxt L p = nx := ⟨_, rfl⟩
      rw [hnx] at cn h1 h2 h3 h4 HSE
      obtain ⟨b, off, hl, rfl, e0, e1, e2, e3⟩ := NV.cells hnv (j := p) (by omega)
      have htg := HV.out.tg _ (List.getElem_mem hl)
      obtain ⟨-, hss, -⟩ := HV.out.gd _ (List.getElem_mem hl)
      have hhs := hs_if x (L[p]'hl)
      have huo : (L[p]'hl).v = 18 → (encOf x).und (L[p]'hl) = (!x && !(fnd (L[p]'hl)).isSome) := und_open x
      have hpvp : (encOf x).pv (L[p]'hl) = pvL (L[p]'hl).v (L[p]'hl).s := encOf_pv x _
      have hh12 := hs_le x (L[p]'hl)
      generalize L[p]'hl = q at e0 e1 e2 e3 htg hss hhs huo hpvp hh12 HSE
      obtain ⟨t, v, z, s⟩ := q
      simp only at e0 e1 e2 e3 htg hss hhs huo hpvp HSE
      obtain ⟨tn, rfl⟩ : ∃ tn : Nat, t = (tn : Int) := ⟨t.toNat, by omega⟩
      have htn : tn < 4294967296 := by omega
      obtain ⟨hh, hhh⟩ : ∃ hh, (encOf x).hs ⟨(tn : Int), v, z, s⟩ = hh := ⟨_, rfl⟩
      rw [hhh] at hhs HSE hh12
      have ch := fun X => rhs_any X v x hh hhs
      have HLN : Hid (Lev L (p + 1) nx ∧ Lev L nx e) := ⟨h3, h4⟩
      have HNX : Hid (p < nx ∧ nx ≤ e) := ⟨h2, h1⟩
      have hnxe : nx ≤ e := h1
      have hpnx : p < nx := h2
      have HWr : Hid (Below W.heap.size W wr) := HI.out.2.2
      have HIE : Hid (k + (encOf x).sD false (sub L p e) = T) := HI.out.2.1
      have hpI : (p : Int) < (n : Int) := by omega
      clear h3 h4 hnx hhh hhs htg hnv HI h1 h2
      by_cases hv : v = 18
      · have bv : (v != 18) = false := by rw [hv]; rfl
        have HU := huo hv
        have ho2 : (!x && !(Tb.docF tn (Tb.upTo 10)).isSome) = (encOf x).und ⟨(tn : Int), v, z, s⟩ := HU.symm
        obtain ⟨un, hun⟩ : ∃ un, (encOf x).und ⟨(tn : Int), v, z, s⟩ = un := ⟨_, rfl⟩
        rw [hun] at ho2 HSE
        rw [if_neg (by simp [hv])] at HSE
        have co := fun X => open_any X tn htn v z s x un ho2
        have HSE2 : Hid _ := HSE
        clear HU huo hun ho2 HSE hpvp hv
        cases un with
        | false =>
          obtain ⟨K0, hK0⟩ : ∃ K0, k + hh = K0 := ⟨_, rfl⟩
          have HK0 : Hid (K0 + (encOf x).sD true (sub L (p + 1) nx) + (encOf x).sD false (sub L nx e) = T) := by have h5 := HIE.out; have h6 := HSE2.out; simp at h6; rw [h6] at h5; show _ = _; omega
          have hKl : K0 ≤ 300000000 := by have h5 := HK0.out; have h7 := HTL.out; omega
          have hKI : (k : Int) + (hh : Int) = (K0 : Int) := by omega
          clear HSE2 HIE hK0
          go_wp2_with (first | (go_at_call 28; refine Calls.mono cn ?_; rintro ee Wa ⟨rfl, rfl⟩) | (go_at_call 86; refine Calls.mono (ch _) ?_; rintro ee Wb ⟨rfl, hbb⟩; have f0 := (hbb.cell (p := ⟨b, off + p * 4, none⟩) (Rp.cell_lt e0)).trans e0; have f1 := (hbb.cell (p := ⟨b, off + p * 4 + 1, none⟩) (Rp.cell_lt e1)).trans e1; have f2 := (hbb.cell (p := ⟨b, off + p * 4 + 2, none⟩) (Rp.cell_lt e2)).trans e2; have f3 := (hbb.cell (p := ⟨b, off + p * 4 + 3, none⟩) (Rp.cell_lt e3)).trans e3) | (go_at_call 88; refine Calls.mono (co _) ?_; rintro ee Wc ⟨rfl, hbc⟩))
          have HWB : Hid (Below W.heap.size W Wc) := (HWr.out.trans (hbb.mono HWr.out.size)).trans (hbc.mono (Nat.le_trans HWr.out.size hbb.size))
          clear hbb hbc f0 f1 f2 f3 e0 e1 e2 e3
          go_loopw [9, 11] (fun x9 x11 wi => ∃ j kk : Nat, x11 = .int .i64 (j : Int) ∧ x9 = .int .i64 (kk : Int) ∧ p + 1 ≤ j ∧ j ≤ nx ∧ kk ≤ 300000000 ∧ Hid (Lev L j nx ∧ kk + (encOf x).sD true (sub L j nx) + (encOf x).sD false (sub L nx e) = T ∧ Below W.heap.size W wi)) (fun _ x11 _ => n - (intOf x11).toNat)
          case atStart => exact ⟨p + 1, K0, by go_num, by first | rfl | rw [hW2] | rw [← hKI], Nat.le_refl _, by omega, by omega, HLN.out.1, HK0.out, HWB.out⟩
          case round =>
            obtain ⟨j, kk, rfl, rfl, hpj, hjn, hkk, HJ⟩ := hrel
            by_cases hjl : j < nx
            · have hjI : (j : Int) < (nx : Int) := by omega
              have hnvj := HV.out.nv.on HJ.out.2.2
              have cj := Wk.nextR_in wr (some ⟨b, off, none⟩) n cap j L hnvj (by omega) (by omega)
              obtain ⟨g1, g2, g3, g4, -⟩ := HJ.out.1.next hjl (by have := HN.out; omega)
              have HSI := (encOf x).sD_item HJ.out.1 hjl (by have := HN.out; omega)
              obtain ⟨af, haf⟩ : ∃ af, nxt L j = af := ⟨_, rfl⟩
              rw [haf] at cj g1 g2 g3 g4 HSI
              obtain ⟨q1, hq1⟩ : ∃ q1, (encOf x).sD false (sub L (j + 1) af) = q1 := ⟨_, rfl⟩
              have cz := fun X (hX : Below W.heap.size W X) => HM.out X (some ⟨b, off, none⟩) n cap L x (j + 1) af (by omega) ⟨HV.out.nv.on hX, HV.out.tg, HV.out.gd, HV.out.n40⟩ (by omega) (by omega) g3
              simp only [hq1] at cz
              rw [hq1] at HSI
              have hq1l : kk + (8 + q1) ≤ 300000000 := by have := HJ.out.2.1; rw [HSI] at this; have := HTL.out; omega
              have HJ2 : Hid (Lev L af nx ∧ (kk + (8 + q1)) + (encOf x).sD true (sub L af nx) + (encOf x).sD false (sub L nx e) = T) := ⟨g4, by have := HJ.out.2.1; rw [HSI] at this; omega⟩
              have HG : Hid (j < af ∧ af ≤ nx) := ⟨g2, g1⟩
              have HWr : Hid (Below W.heap.size W wr) := HJ.out.2.2
              have hja : ((j + 1 : Nat) : Int) = (j : Int) + 1 := by omega
              simp only [hja] at cz
              have hafI : af ≤ 4096 := by omega
              clear g1 g2 g3 g4 HSI haf hq1 HJ hnvj
              go_wp2_with (go_at_call 28; refine StopB.out ?_)
              refine ⟨Calls.mono cj ?_⟩
              rintro ee Wj ⟨rfl, rfl⟩
              go_wp2_with (go_at_call 55; refine StopB.out ?_)
              refine ⟨Calls.mono (cz _ HWr.out) ?_⟩
              rintro ee Wk ⟨rfl, hbk⟩
              go_wp2
              go_roundw
              case rel => exact ⟨af, kk + (8 + q1), rfl, by rw [show ((kk + (8 + q1) : Nat) : Int) = (kk : Int) + (8 + (q1 : Int)) by omega], by have := HG.out; omega, HG.out.2, by omega, HJ2.out.1, HJ2.out.2, HWr.out.trans (hbk.mono HWr.out.size)⟩
              case measure => have := HG.out; simp [intOf]; omega
            · obtain rfl : j = nx := by omega
              have hjI : ¬ (j : Int) < (j : Int) := by omega
              have HF : Hid (kk + (encOf x).sD false (sub L j e) = T) := by have := HJ.out.2.1; rw [sub_nil (Nat.le_refl _)] at this; exact this
              go_wp2
              go_roundw
              case rel => exact ⟨j, kk, rfl, rfl, by omega, by omega, hkk, HLN.out.2, HF.out, HJ.out.2.2⟩
              case measure => simp [intOf]; omega
        | true =>
          obtain ⟨K0, hK0⟩ : ∃ K0, k + hh + 8 = K0 := ⟨_, rfl⟩
          have HK0 : Hid (K0 + (encOf x).sD true (sub L (p + 1) nx) + (encOf x).sD false (sub L nx e) = T) := by have h5 := HIE.out; have h6 := HSE2.out; simp at h6; rw [h6] at h5; show _ = _; omega
          have hKl : K0 ≤ 300000000 := by have h5 := HK0.out; have h7 := HTL.out; omega
          have hKI : (k : Int) + (hh : Int) + 8 = (K0 : Int) := by omega
          have HKE : Hid (k + hh + 8 = K0) := hK0
          clear HSE2 HIE hK0
          go_wp2_with (first | (go_at_call 28; refine Calls.mono cn ?_; rintro ee Wa ⟨rfl, rfl⟩) | (go_at_call 86; refine Calls.mono (ch _) ?_; rintro ee Wb ⟨rfl, hbb⟩; have f0 := (hbb.cell (p := ⟨b, off + p * 4, none⟩) (Rp.cell_lt e0)).trans e0; have f1 := (hbb.cell (p := ⟨b, off + p * 4 + 1, none⟩) (Rp.cell_lt e1)).trans e1; have f2 := (hbb.cell (p := ⟨b, off + p * 4 + 2, none⟩) (Rp.cell_lt e2)).trans e2; have f3 := (hbb.cell (p := ⟨b, off + p * 4 + 3, none⟩) (Rp.cell_lt e3)).trans e3) | (go_at_call 88; refine Calls.mono (co _) ?_; rintro ee Wc ⟨rfl, hbc⟩))
          have HWB : Hid (Below W.heap.size W Wc) := (HWr.out.trans (hbb.mono HWr.out.size)).trans (hbc.mono (Nat.le_trans HWr.out.size hbb.size))
          clear hbb hbc f0 f1 f2 f3 e0 e1 e2 e3
          go_loopw [9, 11] (fun x9 x11 wi => ∃ j kk : Nat, x11 = .int .i64 (j : Int) ∧ x9 = .int .i64 (kk : Int) ∧ p + 1 ≤ j ∧ j ≤ nx ∧ kk ≤ 300000000 ∧ Hid (Lev L j nx ∧ kk + (encOf x).sD true (sub L j nx) + (encOf x).sD false (sub L nx e) = T ∧ Below W.heap.size W wi)) (fun _ x11 _ => n - (intOf x11).toNat)
          case atStart => exact ⟨p + 1, K0, by go_num, by first | rfl | rw [hW2] | rw [← hKI], Nat.le_refl _, by omega, by omega, HLN.out.1, HK0.out, HWB.out⟩
          case round =>
            obtain ⟨j, kk, rfl, rfl, hpj, hjn, hkk, HJ⟩ := hrel
            by_cases hjl : j < nx
            · have hjI : (j : Int) < (nx : Int) := by omega
              have hnvj := HV.out.nv.on HJ.out.2.2
              have cj := Wk.nextR_in wr (some ⟨b, off, none⟩) n cap j L hnvj (by omega) (by omega)
              obtain ⟨g1, g2, g3, g4, -⟩ := HJ.out.1.next hjl (by have := HN.out; omega)
              have HSI := (encOf x).sD_item HJ.out.1 hjl (by have := HN.out; omega)
              obtain ⟨af, haf⟩ : ∃ af, nxt L j = af := ⟨_, rfl⟩
              rw [haf] at cj g1 g2 g3 g4 HSI
              obtain ⟨q1, hq1⟩ : ∃ q1, (encOf x).sD false (sub L (j + 1) af) = q1 := ⟨_, rfl⟩
              have cz := fun X (hX : Below W.heap.size W X) => HM.out X (some ⟨b, off, none⟩) n cap L x (j + 1) af (by omega) ⟨HV.out.nv.on hX, HV.out.tg, HV.out.gd, HV.out.n40⟩ (by omega) (by omega) g3
              simp only [hq1] at cz
              rw [hq1] at HSI
              have hq1l : kk + (8 + q1) ≤ 300000000 := by have := HJ.out.2.1; rw [HSI] at this; have := HTL.out; omega
              have HJ2 : Hid (Lev L af nx ∧ (kk + (8 + q1)) + (encOf x).sD true (sub L af nx) + (encOf x).sD false (sub L nx e) = T) := ⟨g4, by have := HJ.out.2.1; rw [HSI] at this; omega⟩
              have HG : Hid (j < af ∧ af ≤ nx) := ⟨g2, g1⟩
              have HWr : Hid (Below W.heap.size W wr) := HJ.out.2.2
              have hja : ((j + 1 : Nat) : Int) = (j : Int) + 1 := by omega
              simp only [hja] at cz
              have hafI : af ≤ 4096 := by omega
              clear g1 g2 g3 g4 HSI haf hq1 HJ hnvj
              go_wp2_with (go_at_call 28; refine StopB.out ?_)
              refine ⟨Calls.mono cj ?_⟩
              rintro ee Wj ⟨rfl, rfl⟩
              go_wp2_with (go_at_call 55; refine StopB.out ?_)
              refine ⟨Calls.mono (cz _ HWr.out) ?_⟩
              rintro ee Wk ⟨rfl, hbk⟩
              go_wp2
              go_roundw
              case rel => exact ⟨af, kk + (8 + q1), rfl, by rw [show ((kk + (8 + q1) : Nat) : Int) = (kk : Int) + (8 + (q1 : Int)) by omega], by have := HG.out; omega, HG.out.2, by omega, HJ2.out.1, HJ2.out.2, HWr.out.trans (hbk.mono HWr.out.size)⟩
              case measure => have := HG.out; simp [intOf]; omega
            · obtain rfl : j = nx := by omega
              have hjI : ¬ (j : Int) < (j : Int) := by omega
              have HF : Hid (kk + (encOf x).sD false (sub L j e) = T) := by have := HJ.out.2.1; rw [sub_nil (Nat.le_refl _)] at this; exact this
              go_wp2
              go_roundw
              case rel => exact ⟨j, kk, rfl, rfl, by omega, by omega, hkk, HLN.out.2, HF.out, HJ.out.2.2⟩
              case measure => simp [intOf]; omega
      · have bv : (v != 18) = true := by simp [hv]
        rw [if_pos hv, hpvp, pvL_len, ← pad_len (Rp.pd (Rp.vn v)) s] at HSE
        have cp := fun X => Rp.rpad_any X v s (by omega)
        have hpz := pad_len (Rp.pd (Rp.vn v)) s
        generalize Rp.padB (Rp.pd (Rp.vn v)) s = pb at cp HSE hpz
        have HSE2 : Hid _ := HSE
        obtain ⟨K0, hK0⟩ : ∃ K0, k + hh + pb.size = K0 := ⟨_, rfl⟩
        have HK0 : Hid (K0 + (encOf x).sD true (sub L (p + 1) nx) + (encOf x).sD false (sub L nx e) = T) := by have h5 := HIE.out; have h6 := HSE2.out; rw [h6] at h5; show _ = _; omega
        have hKl : K0 ≤ 300000000 := by have h5 := HK0.out; have h7 := HTL.out; omega
        have hKI : (k : Int) + (hh : Int) + (pb.size : Int) = (K0 : Int) := by omega
        have hpb : pb.size ≤ 65536 := by omega
        clear HSE2 HIE hK0 HSE huo hpvp hv hpz
        go_wp2_with (first | (go_at_call 28; refine Calls.mono cn ?_; rintro ee Wa ⟨rfl, rfl⟩) | (go_at_call 86; refine Calls.mono (ch _) ?_; rintro ee Wb ⟨rfl, hbb⟩; have f0 := (hbb.cell (p := ⟨b, off + p * 4, none⟩) (Rp.cell_lt e0)).trans e0; have f1 := (hbb.cell (p := ⟨b, off + p * 4 + 1, none⟩) (Rp.cell_lt e1)).trans e1; have f2 := (hbb.cell (p := ⟨b, off + p * 4 + 2, none⟩) (Rp.cell_lt e2)).trans e2; have f3 := (hbb.cell (p := ⟨b, off + p * 4 + 3, none⟩) (Rp.cell_lt e3)).trans e3))
        have hW2 : IntKind.i64.wrap (K0 : Int) = (K0 : Int) := Go.IntWalk.i64_in _ (by omega)
        have hWr : IntKind.i64.wrap ((k : Int) + (hh : Int) + (pb.size : Int)) = (K0 : Int) := by rw [hKI]; exact Go.IntWalk.i64_in _ (by omega)
        go_region_held3 (fun w' => w'.cell? ⟨b, off + p * 4 + 1, none⟩ = some (.int .i64 v) ∧ w'.cell? ⟨b, off + p * 4 + 3, none⟩ = some (.string s)) (first | (go_keep; done) | exact ⟨by assumption, by assumption⟩) (first | (go_at_call 87; refine Calls.mono (cp _) ?_; rintro ee Wc ⟨rfl, hbc⟩; have j1 : Wc.cell? ⟨b, off + p * 4 + 1, none⟩ = some (.int .i64 v) := (hbc.cell (p := ⟨b, off + p * 4 + 1, none⟩) (Rp.cell_lt f1)).trans f1; have j3 : Wc.cell? ⟨b, off + p * 4 + 3, none⟩ = some (.string s) := (hbc.cell (p := ⟨b, off + p * 4 + 3, none⟩) (Rp.cell_lt f3)).trans f3))
        have HWB : Hid (Below W.heap.size W Wc) := by
          have h9 : Below W.heap.size W Wb := HWr.out.trans (hbb.mono HWr.out.size)
          exact h9.drew.trans (hbc.mono h9.drew.size)
        clear hbb hbc f0 f1 f2 f3 e0 e1 e2 e3 j1 j3
        try rw [hWr]
        go_wp2
        go_loopw [9, 11] (fun x9 x11 wi => ∃ j kk : Nat, x11 = .int .i64 (j : Int) ∧ x9 = .int .i64 (kk : Int) ∧ p + 1 ≤ j ∧ j ≤ nx ∧ kk ≤ 300000000 ∧ Hid (Lev L j nx ∧ kk + (encOf x).sD true (sub L j nx) + (encOf x).sD false (sub L nx e) = T ∧ Below W.heap.size W wi)) (fun _ x11 _ => n - (intOf x11).toNat)
        case atStart => exact ⟨p + 1, K0, by go_num, by first | rfl | rw [hW2] | rw [← hKI], Nat.le_refl _, by omega, by omega, HLN.out.1, HK0.out, HWB.out⟩
        case round =>
          obtain ⟨j, kk, rfl, rfl, hpj, hjn, hkk, HJ⟩ := hrel
          by_cases hjl : j < nx
          · have hjI : (j : Int) < (nx : Int) := by omega
            have hnvj := HV.out.nv.on HJ.out.2.2
            have cj := Wk.nextR_in wr (some ⟨b, off, none⟩) n cap j L hnvj (by omega) (by omega)
            obtain ⟨g1, g2, g3, g4, -⟩ := HJ.out.1.next hjl (by have := HN.out; omega)
            have HSI := (encOf x).sD_item HJ.out.1 hjl (by have := HN.out; omega)
            obtain ⟨af, haf⟩ : ∃ af, nxt L j = af := ⟨_, rfl⟩
            rw [haf] at cj g1 g2 g3 g4 HSI
            obtain ⟨q1, hq1⟩ : ∃ q1, (encOf x).sD false (sub L (j + 1) af) = q1 := ⟨_, rfl⟩
            have cz := fun X (hX : Below W.heap.size W X) => HM.out X (some ⟨b, off, none⟩) n cap L x (j + 1) af (by omega) ⟨HV.out.nv.on hX, HV.out.tg, HV.out.gd, HV.out.n40⟩ (by omega) (by omega) g3
            simp only [hq1] at cz
            rw [hq1] at HSI
            have hq1l : kk + (8 + q1) ≤ 300000000 := by have := HJ.out.2.1; rw [HSI] at this; have := HTL.out; omega
            have HJ2 : Hid (Lev L af nx ∧ (kk + (8 + q1)) + (encOf x).sD true (sub L af nx) + (encOf x).sD false (sub L nx e) = T) := ⟨g4, by have := HJ.out.2.1; rw [HSI] at this; omega⟩
            have HG : Hid (j < af ∧ af ≤ nx) := ⟨g2, g1⟩
            have HWr : Hid (Below W.heap.size W wr) := HJ.out.2.2
            have hja : ((j + 1 : Nat) : Int) = (j : Int) + 1 := by omega
            simp only [hja] at cz
            have hafI : af ≤ 4096 := by omega
            clear g1 g2 g3 g4 HSI haf hq1 HJ hnvj
            go_wp2_with (go_at_call 28; refine StopB.out ?_)
            refine ⟨Calls.mono cj ?_⟩
            rintro ee Wj ⟨rfl, rfl⟩
            go_wp2_with (go_at_call 55; refine StopB.out ?_)
            refine ⟨Calls.mono (cz _ HWr.out) ?_⟩
            rintro ee Wk ⟨rfl, hbk⟩
            go_wp2
            go_roundw
            case rel => exact ⟨af, kk + (8 + q1), rfl, by rw [show ((kk + (8 + q1) : Nat) : Int) = (kk : Int) + (8 + (q1 : Int)) by omega], by have := HG.out; omega, HG.out.2, by omega, HJ2.out.1, HJ2.out.2, HWr.out.trans (hbk.mono HWr.out.size)⟩
            case measure => have := HG.out; simp [intOf]; omega
          · obtain rfl : j = nx := by omega
            have hjI : ¬ (j : Int) < (j : Int) := by omega
            have HF : Hid (kk + (encOf x).sD false (sub L j e) = T) := by have := HJ.out.2.1; rw [sub_nil (Nat.le_refl _)] at this; exact this
            go_wp2
            go_roundw
            case rel => exact ⟨j, kk, rfl, rfl, by omega, by omega, hkk, HLN.out.2, HF.out, HJ.out.2.2⟩
            case measure => simp [intOf]; omega
    · obtain rfl : p = e := by omega
      have hltI : ¬ (p : Int) < (p : Int) := by omega
      have HE : Hid (k = T) := by have := HI.out.2.1; rw [sub_nil (Nat.le_refl _)] at this; exact this
      go_wp2
      go_ret
      exact ⟨by rw [← HE.out]; rfl, HI.out.2.2⟩
theorem rs_any (m : Nat) : RsC m := Nat.strongRecOn m rs_step
end Go.Proofs.YtoikdpjjcnmgeaaGreatDoor
end

section
/-
  DERIVED. How the document goes through a list of nodes.
-/
namespace Go.Proofs.YtoikdpjjcnmgeaaGreatDoor
open Go Go.Proofs Go.RowKit
open Wk (Nd NV)

set_option maxRecDepth 100000 in
set_option maxHeartbeats 4000000 in
theorem some_step (d : Nat) (hd : d ≤ 4) (hrec : d + 1 ≤ 4 → SomeC (d + 1)) : SomeC d := by
  intro w a n cap L i c hV hT hi h4 hc1 hc2
  have HV : Hid (NV w a n cap L) := hV
  have HT : Hid (TagsOk L) := hT
  have HN : Hid (n = L.length) := hV.len
  have HRC : Hid (d + 1 ≤ 4 → SomeC (d + 1)) := hrec
  have hsm := hV.small
  clear hV hT hrec
  have HI0 : Hid (SomeI elemOk itemOk L i c d 0 i 0) := SomeI.start _ _ L i c d (by rw [← HN.out]; exact hi) h4
  go_enter Tryz.func85, Tryz.ntmps85
  go_wp2
  go_loopw [1, 10, 11] (fun x1 x10 x11 wr => ∃ (j k : Nat) (last : Int), x1 = .int .i64 (j : Int) ∧ x10 = .int .u32 last ∧ x11 = .int .i64 (k : Int) ∧ j ≤ n ∧ j ≤ 4096 ∧ k ≤ j ∧ Hid (SomeI elemOk itemOk L i c d k j last) ∧ Hid (Below w.heap.size w wr)) (fun x1 _ _ _ => n - (intOf x1).toNat)
  case atStart => exact ⟨i, 0, 0, rfl, rfl, rfl, hi, h4, by omega, HI0, Below.refl _ _⟩
  case round =>
    obtain ⟨j, k, last, rfl, rfl, rfl, hj, hj4, hkj, HI, HB⟩ := hrel
    by_cases hk : (k : Int) = c
    · have HQ : Hid (SomeQ elemOk itemOk L i c d j true) := HI.out.done hk
      have bk : ((k : Int) != c) = false := by rw [hk]; simp
      clear hk HI
      go_wp2
      exact bodyPost_ret (v := .tuple #[.int .i64 (j : Int), .bool true]) (by simp [results, Tryz.results85, go_sem]) rfl ⟨j, true, rfl, HQ.out, HB.out⟩
    · have bk : ((k : Int) != c) = true := bne_iff_ne.2 hk
      by_cases hjn : n ≤ j
      · have HQ : Hid (SomeQ elemOk itemOk L i c d j (decide (c < 0))) := HI.out.ends hk (by rw [← HN.out]; exact hjn)
        clear hk HI
        have bj : decide ((n : Int) ≤ (j : Int)) = true := by simp; omega
        go_wp2
        exact bodyPost_ret (v := .tuple #[.int .i64 (j : Int), .bool (decide (c < 0))]) (by simp [results, Tryz.results85, go_sem]) rfl ⟨j, _, rfl, HQ.out, HB.out⟩
      · have bj : decide ((n : Int) ≤ (j : Int)) = false := by simp; omega
        by_cases hj40 : 4096 ≤ j
        · have HQ : Hid (SomeQ elemOk itemOk L i c d j false) := HI.out.bad hk (by rw [← HN.out]; omega) (.inl hj40)
          clear hk HI
          go_wp2
          exact bodyPost_ret (v := .tuple #[.int .i64 (j : Int), .bool false]) (by simp [results, Tryz.results85, go_sem]) rfl ⟨j, _, rfl, HQ.out, HB.out⟩
        · obtain ⟨b, off, hl, rfl, m0, m1, m2, m3⟩ := NV.cells HV.out (j := j) (by omega)
          have hbl : b < w.heap.size := Tb.cell_lt m0
          replace m0 := (HB.out.cell (p := ⟨b, off + j * 4, none⟩) hbl).trans m0
          replace m1 := (HB.out.cell (p := ⟨b, off + j * 4 + 1, none⟩) hbl).trans m1
          replace m2 := (HB.out.cell (p := ⟨b, off + j * 4 + 2, none⟩) hbl).trans m2
          replace m3 := (HB.out.cell (p := ⟨b, off + j * 4 + 3, none⟩) hbl).trans m3
          have hnr := HV.out.num _ (List.getElem_mem hl)
          have htg := HT.out _ (List.getElem_mem hl)
          have c24 := fun W => relement_any W (L[j]'hl) htg.1 htg.2 last
          have HBAD : Hid ((elemOk (L[j]'hl) && decide (last < (L[j]'hl).t)) = false → SomeQ elemOk itemOk L i c d j false) := fun h => HI.out.bad hk hl (.inr h)
          have HGOOD : Hid ((elemOk (L[j]'hl) && decide (last < (L[j]'hl).t)) = true → SomeJ elemOk itemOk L i c d k (j + 1) (L[j]'hl).t (L[j]'hl).n) := fun h => by
            simp only [Bool.and_eq_true, decide_eq_true_eq] at h
            exact HI.out.good elem_n hk hl (by omega) h.1 h.2
          obtain ⟨z, hz⟩ : ∃ z, (elemOk (L[j]'hl) && decide (last < (L[j]'hl).t)) = z := ⟨_, rfl⟩
          simp only [hz] at c24 HBAD HGOOD
          generalize L[j]'hl = q at m0 m1 m2 m3 hnr c24 HBAD HGOOD
          clear hz htg HI
          cases z with
          | false =>
            have HQ : Hid (SomeQ elemOk itemOk L i c d j false) := HBAD.out rfl
            clear HBAD HGOOD
            go_wp2_with (first | (go_at_call 123; refine (c24 _).mono ?_; rintro e W2 ⟨rfl, hb2⟩) | fail)
            exact bodyPost_ret (v := .tuple #[.int .i64 (j : Int), .bool false]) (by simp [results, Tryz.results85, go_sem]) rfl ⟨j, _, rfl, HQ.out, HB.out.trans (hb2.mono HB.out.size)⟩
          | true =>
            have HJ : Hid (SomeJ elemOk itemOk L i c d k (j + 1) q.t q.n) := HGOOD.out rfl
            clear HBAD HGOOD
            go_wp2_with (first | (go_at_call 123; refine (c24 _).mono ?_; rintro e W2 ⟨rfl, hb2⟩; have HB2 : Hid (Below w.heap.size w W2) := HB.out.trans (hb2.mono HB.out.size); have w0 := (hb2.cell (p := ⟨b, off + j * 4, none⟩) (Tb.cell_lt m0)).trans m0; have w2 := (hb2.cell (p := ⟨b, off + j * 4 + 2, none⟩) (Tb.cell_lt m2)).trans m2) | fail)
            clear c24 m0 m1 m2 m3 w0 w2
            go_loopw [1, 13] (fun x1 x13 wr => ∃ (e m : Nat), x1 = .int .i64 (e : Int) ∧ x13 = .int .i64 (m : Int) ∧ e ≤ n ∧ e ≤ 4096 ∧ j < e ∧ (m : Int) ≤ q.n ∧ Hid (SomeJ elemOk itemOk L i c d k e q.t (q.n - m)) ∧ Hid (Below w.heap.size w wr)) (fun x1 _ _ => n - (intOf x1).toNat)
            case atStart =>
              refine ⟨j + 1, 0, by simp, rfl, by omega, by omega, by omega, ?_, ?_, HB2⟩
              · have := HJ.out.2.2.2.2.2.1
                simpa using this
              · show SomeJ _ _ _ _ _ _ _ _ _ _
                have := HJ.out
                simpa using this
            case round =>
              obtain ⟨e, m, rfl, rfl, hen, he4, hje, hm, HJm, HBm⟩ := hrel
              by_cases hmq : (m : Int) < q.n
              · have bm : decide ((m : Int) < q.n) = true := by simpa using hmq
                have HMQ : Hid ((m : Int) < q.n) := hmq
                by_cases hen2 : n ≤ e
                · have HQ : Hid (SomeQ elemOk itemOk L i c d e false) := HJm.out.bad (by omega) (.inl (by rw [← HN.out]; exact hen2))
                  have be : decide ((n : Int) ≤ (e : Int)) = true := by simp; omega
                  go_wp2
                  exact bodyPost_ret (v := .tuple #[.int .i64 (e : Int), .bool false]) (by simp [results, Tryz.results85, go_sem]) rfl ⟨e, _, rfl, HQ.out, HBm.out⟩
                · have be : decide ((n : Int) ≤ (e : Int)) = false := by simp; omega
                  by_cases he40 : 4096 ≤ e
                  · have HQ : Hid (SomeQ elemOk itemOk L i c d e false) := HJm.out.bad (by omega) (.inr (.inl he40))
                    obtain rfl : e = 4096 := by omega
                    clear HJm HJ HI0 he40 he4
                    go_wp2
                    exact bodyPost_ret (v := .tuple #[.int .i64 4096, .bool false]) (by simp [results, Tryz.results85, go_sem]) rfl ⟨4096, _, rfl, HQ.out, HBm.out⟩
                  · obtain ⟨b', off', hl', hab, m0, m1, m2, m3⟩ := NV.cells HV.out (j := e) (by omega)
                    obtain ⟨rfl, rfl⟩ : b = b' ∧ off = off' := by simpa using hab
                    replace m0 := (HBm.out.cell (p := ⟨b, off + e * 4, none⟩) hbl).trans m0
                    replace m1 := (HBm.out.cell (p := ⟨b, off + e * 4 + 1, none⟩) hbl).trans m1
                    replace m2 := (HBm.out.cell (p := ⟨b, off + e * 4 + 2, none⟩) hbl).trans m2
                    replace m3 := (HBm.out.cell (p := ⟨b, off + e * 4 + 3, none⟩) hbl).trans m3
                    have hnr' := HV.out.num _ (List.getElem_mem hl')
                    have c25 : ∀ W, Calls Tryz.prog 124 #[.agg #[.int .u32 (L[e]'hl').t, .int .i64 (L[e]'hl').v, .int .i64 (L[e]'hl').n, .string (L[e]'hl').s], .int .i64 ((d : Int) + 1)] W fun e_1 w' => e_1 = .returned (.bool (itemOk (L[e]'hl') && decide (d + 1 ≤ 4))) ∧ Below W.heap.size W w' := fun W => ritem_any W (L[e]'hl') (d + 1) (by omega)
                    have HBAD : Hid ((itemOk (L[e]'hl') && decide (d + 1 ≤ 4)) = false → SomeQ elemOk itemOk L i c d e false) := fun h => HJm.out.bad (by omega) (.inr (.inr ⟨hl', h⟩))
                    have HGOOD : Hid ((itemOk (L[e]'hl') && decide (d + 1 ≤ 4)) = true → (∀ (W : World), Below w.heap.size w W → Calls Tryz.prog 85 #[.slice (some ⟨b, off, none⟩) n cap, .int .i64 ((e : Int) + 1), .int .i64 (L[e]'hl').n, .int .i64 ((d : Int) + 1)] W (SomeP W L (e + 1) (L[e]'hl').n (d + 1))) ∧ ∀ (e2 : Nat) (ok : Bool), SomeQ elemOk itemOk L (e + 1) (L[e]'hl').n (d + 1) e2 ok → (ok = false → SomeQ elemOk itemOk L i c d e2 false) ∧ (ok = true → SomeJ elemOk itemOk L i c d k e2 q.t (q.n - m - 1))) := fun h => by
                      simp only [Bool.and_eq_true, decide_eq_true_eq] at h
                      refine ⟨fun W hW => ?_, fun e2 ok hq => HJm.out.item item_n (by omega) hl' (by omega) h.1 h.2 hq⟩
                      have h0 := item_n _ h.1
                      exact HRC.out h.2 W _ n cap L (e + 1) _ (HV.out.on hW) HT.out (by omega) (by omega) (by omega) hnr'.2
                    obtain ⟨z, hz⟩ : ∃ z, (itemOk (L[e]'hl') && decide (d + 1 ≤ 4)) = z := ⟨_, rfl⟩
                    simp only [hz] at c25 HBAD HGOOD
                    generalize L[e]'hl' = q' at m0 m1 m2 m3 hnr' c25 HBAD HGOOD
                    clear hz hab
                    have b4 : decide ((4096 : Int) ≤ (e : Int)) = false := by simp; omega
                    have HE4 : Hid (e < 4096) := by show _ < _; omega
                    have hmr : (m : Int) < 9223372036854775807 := by omega
                    clear he40 he4 hmq hnr hnr' hc1 hc2
                    cases z with
                    | false =>
                      have HQ : Hid (SomeQ elemOk itemOk L i c d e false) := HBAD.out rfl
                      clear HBAD HGOOD
                      go_wp2_with (first | (go_at_call 124; refine (c25 _).mono ?_; rintro e W3 ⟨rfl, hb3⟩) | fail)
                      exact bodyPost_ret (v := .tuple #[.int .i64 (e : Int), .bool false]) (by simp [results, Tryz.results85, go_sem]) rfl ⟨e, _, rfl, HQ.out, HBm.out.trans (hb3.mono HBm.out.size)⟩
                    | true =>
                      have HG : Hid _ := HGOOD.out rfl
                      clear HBAD HGOOD
                      go_wp2_with (first | (go_at_call 124; refine (c25 _).mono ?_; rintro e_1 W3 ⟨rfl, hb3⟩; have HB3 : Hid (Below w.heap.size w W3) := HBm.out.trans (hb3.mono HBm.out.size); have w2 := (hb3.cell (p := ⟨b, off + e * 4 + 2, none⟩) (Tb.cell_lt m2)).trans m2) | (go_at_call 85; refine StopF.out ?_))
                      refine ⟨Calls.mono (HG.out.1 W3 HB3.out) ?_⟩
                      rintro e_1 W4 ⟨e2, ok, rfl, hq2, hb4⟩
                      have HB4 : Hid (Below w.heap.size w W4) := HB3.out.trans (hb4.mono HB3.out.size)
                      have hr1 := hq2.1
                      have hr2 : e2 ≤ n := by rw [HN.out]; exact hq2.2.1
                      have hr3 := hq2.2.2.1
                      have HK := HG.out.2 e2 ok hq2
                      clear hb4 hq2 hb3 c25 m0 m1 m2 m3 w2
                      cases ok with
                      | false =>
                        have HQ : Hid (SomeQ elemOk itemOk L i c d e2 false) := HK.1 rfl
                        clear HK HG
                        go_wp2
                        exact bodyPost_ret (v := .tuple #[.int .i64 (e2 : Int), .bool false]) (by simp [results, Tryz.results85, go_sem]) rfl ⟨e2, _, rfl, HQ.out, HB4.out⟩
                      | true =>
                        have HJ2 : Hid (SomeJ elemOk itemOk L i c d k e2 q.t (q.n - ((m + 1 : Nat) : Int))) := by
                          show SomeJ _ _ _ _ _ _ _ _ _ _
                          have := HK.2 rfl
                          rwa [show q.n - (m : Int) - 1 = q.n - ((m + 1 : Nat) : Int) by omega] at this
                        clear HK HG
                        go_wp2
                        exact ⟨⟨e2, m + 1, rfl, by simp, hr2, hr3, by omega, by have := HMQ.out; omega, HJ2, HB4⟩, by simp [intOf]; omega⟩
              · have HI2 : Hid (SomeI elemOk itemOk L i c d (k + 1) e q.t) := by
                  have := HJm.out
                  rw [show q.n - (m : Int) = 0 by omega] at this
                  exact this.done
                have bm : decide ((m : Int) < q.n) = false := by simp; omega
                go_wp2
                exact ⟨⟨e, k + 1, q.t, rfl, rfl, by simp, hen, he4, by omega, HI2, HBm⟩, by simp [intOf]; omega⟩
end Go.Proofs.YtoikdpjjcnmgeaaGreatDoor
end
