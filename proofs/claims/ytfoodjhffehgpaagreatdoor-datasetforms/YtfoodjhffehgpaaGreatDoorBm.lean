import Derived.Test.YtfoodjhffehgpaaGreatDoorQc
import Derived.Test.YtfoodjhffehgpaaGreatDoorVk
import Derived.Test.YtfoodjhffehgpaaGreatDoorVv
import Derived.WideMake
section
/-
  DERIVED. What Encode tells is read by Decode. Plain functions.
-/
namespace Go.Proofs.YtfoodjhffehgpaaGreatDoor
open Go Go.Proofs Go.RowKit
open Wk (Nd goN)

theorem err_ok {s : Int} {L : List Nd} (h : errOf s L = none) : (s = 1 ∨ s = 2) ∧ (res L).2 = true ∧ (encS s).szP L ≤ 1048576 ∧ outB s L = (encS s).wP L := by
  have h0 := h
  unfold errOf at h
  split at h
  · cases h
  · rename_i h1
    split at h
    · cases h
    · rename_i h2
      split at h
      · cases h
      · rename_i h3
        refine ⟨by omega, by simpa using h2, by omega, ?_⟩
        unfold outB
        rw [h0]
        rfl
/-- What is laid down is read again. -/
theorem back_ok {s : Int} {L : List Nd} (h : errOf s L = none) (hT : TagsOk L) : OkD s (outB s L) (L.map (bkN (decide (s = 2)))) := by
  obtain ⟨h1, h2, h3, h4⟩ := err_ok h
  obtain ⟨c, hw⟩ := run_wt0 elem_n item_n L.length L 0 0 0 (Nat.le_refl _) h2
  have hwf := wt_wf _ _ _ _ _ _ hw
  have hl := (res_ok h2).1
  obtain ⟨e1, e2⟩ := Enc.same (fitX (decide (s = 2))) L.length false L hwf
  have hz : (outB s L).length = (encS s).szP L := by
    rw [h4]
    exact wr_len _ _ _ (Nat.le_refl _) (wf_good _ _ _ hwf)
  refine ⟨h1, by omega, ?_⟩
  obtain ⟨t2, hg⟩ := (back (decide (s = 2)) (outB s L) L.length false 0 0 c L (Nat.le_refl _) hw hT (Int.le_refl 0) 0 (outB s L).length 0 false (fun _ => rfl) ⟨[], by rw [List.drop_zero, List.append_nil, e2, h4]; rfl⟩ (by rw [e1, hz, Nat.zero_add]; exact Nat.le_refl _) (by omega) (by omega)).1 rfl
  refine hg [] none [] _ rfl (fun i e => nomatch e) rfl ?_
  refine .go (zs_end rfl ?_) (.done _ _)
  show 0 + (encOf (decide (s = 2))).szD L.length false L = (outB s L).length
  rw [e1, hz, Nat.zero_add]
  rfl
end Go.Proofs.YtfoodjhffehgpaaGreatDoor
end

section
/-
  DERIVED. The size and the bytes of a data set: the program's.
-/
namespace Go.Proofs.YtfoodjhffehgpaaGreatDoor
open Go Go.Proofs Go.RowKit
open Wk (Nd NV goN nxt)

theorem encS_I : encS 1 = encI := rfl
theorem encS_E : encS 2 = encE := rfl
/-- What Size tells. -/
def SzP (w : World) (s : Int) (L : List Nd) (e : Ending) (w' : World) : Prop := ∃ ve, e = .returned (.tuple #[.int .i64 (siz s L : Int), ve]) ∧ PErr w' ve (errOf s L) ∧ Below w.heap.size w w'

set_option maxRecDepth 100000 in
theorem size_no (w : World) (a : Option Addr) (n cap : Nat) (L : List Nd) (s : Int) (h : s ≠ 1 ∧ s ≠ 2) : Calls Tryz.prog 31 #[.slice a n cap, .int .i64 s] w (SzP w s L) := by
  have c := syntax_no w s h
  have HS : Hid (siz s L = 0 ∧ errOf s L = some ([(dsB, 0)], 120)) := ⟨by unfold siz; rw [err_bad h]; rfl, err_bad h⟩
  clear h
  go_enter Tryz.func31, Tryz.ntmps31
  go_wp2_with (go_at_call 26; refine StopB.out ?_)
  refine ⟨Calls.mono c ?_⟩
  rintro e W1 ⟨q, rfl, hc, hb⟩
  go_wp2
  refine bodyPost_ret (v := .tuple #[.int .i64 0, .iface 75 (.pointer (some ⟨q, 0, none⟩))]) (by simp [results, Tryz.results31, go_sem]) rfl ⟨_, by rw [HS.out.1]; rfl, ?_, hb.out⟩
  rw [HS.out.2]
  exact .inr ⟨_, _, rfl, hc.out⟩
theorem PD.err {w : World} {v : Value} {r : Nat × Bool} (h : PD w v r) (hr : r.2 = false) : ∃ q, v = .iface 75 (.pointer (some ⟨q, 0, none⟩)) ∧ Chain w [(dsB, (r.1 : Int)), (dcB, (r.1 : Int))] 5 v := by
  rcases h with ⟨h, -⟩ | ⟨-, h⟩
  · rw [hr] at h; cases h
  · obtain ⟨q, u, rfl, h1⟩ := h
    exact ⟨q, rfl, q, u, rfl, h1⟩
theorem PD.nil {w : World} {v : Value} {r : Nat × Bool} (h : PD w v r) (hr : r.2 = true) : v = .nilIface := by
  rcases h with ⟨-, h⟩ | ⟨h, -⟩
  · exact h
  · rw [hr] at h; cases h
set_option maxRecDepth 100000 in
set_option maxHeartbeats 2000000 in
theorem size_I (w : World) (a : Option Addr) (n cap : Nat) (L : List Nd) (hV : NV w a n cap L) (hT : TagsOk L) (hE : EG w) : Calls Tryz.prog 31 #[.slice a n cap, .int .i64 1] w (SzP w 1 L) := by
  have cf := dformed_any w a n cap L hV hT hE
  have c := syntax_I w
  have HV : Hid (NV w a n cap L ∧ TagsOk L) := ⟨hV, hT⟩
  have hlen := hV.len
  have HN : Hid (n = L.length) := hlen
  clear hV hT hE hlen
  go_enter Tryz.func31, Tryz.ntmps31
  go_wp2_with (first | (go_at_call 26; refine Calls.mono c ?_; rintro e W0 ⟨rfl, rfl⟩) | (go_at_call 47; refine StopB.out ?_))
  refine ⟨Calls.mono cf ?_⟩
  rintro e W1 ⟨ve, rfl, hpd, hb⟩
  clear cf c
  rcases hr : (res L).2 with _ | _
  · obtain ⟨q, rfl, hc⟩ := hpd.out.err hr
    have HS : Hid (siz 1 L = 0 ∧ errOf 1 L = some ([(dsB, ((res L).1 : Int)), (dcB, ((res L).1 : Int))], 5)) := ⟨by unfold siz; rw [err_form (by decide) hr]; rfl, err_form (by decide) hr⟩
    have HC : Hid _ := hc
    clear hpd hr hc
    go_wp2
    refine bodyPost_ret (v := .tuple #[.int .i64 0, .iface 75 (.pointer (some ⟨q, 0, none⟩))]) (by simp [results, Tryz.results31, go_sem]) rfl ⟨_, by rw [HS.out.1]; rfl, ?_, hb.out⟩
    rw [HS.out.2]
    exact .inr ⟨_, _, rfl, HC.out⟩
  · obtain rfl := hpd.out.nil hr
    obtain ⟨h40, -⟩ := res_ok hr
    have hg := res_good hr
    have cs := szI_any W1 a n cap L (HV.out.1.on hb.out) HV.out.2 (by rw [HN.out]; exact h40) hg.sz
    obtain ⟨k, hk⟩ : ∃ k, encI.szP L = k := ⟨_, rfl⟩
    rw [hk] at cs
    have HK : Hid (encI.szP L = k) := hk
    by_cases hkl : 1048576 < k
    · have HS : Hid (siz 1 L = 0 ∧ errOf 1 L = some ([(dsB, 1048576)], 121)) := by
        have e := err_long (s := 1) (L := L) (by decide) hr (by rw [encS_I, hk]; exact hkl)
        exact ⟨by unfold siz; rw [e]; rfl, e⟩
      have hkI : (1048576 : Int) < (k : Int) := by omega
      clear hr hg hk h40 hpd
      go_wp2_with (first | (go_at_call 48; refine Calls.mono cs ?_; rintro e W2 ⟨rfl, hb2⟩) | (go_at_call 27; refine StopB.out ?_))
      refine ⟨Calls.mono (refuseN_any W2 1048576 121) ?_⟩
      rintro e W3 ⟨vr, rfl, hc3, hb3⟩
      obtain ⟨q, u, rfl, hr3⟩ := hc3.out
      clear hr3
      go_wp2
      refine bodyPost_ret (v := .tuple #[.int .i64 0, .iface 75 (.pointer (some ⟨q, 0, none⟩))]) (by simp [results, Tryz.results31, go_sem]) rfl ⟨_, by rw [HS.out.1]; rfl, ?_, (hb.out.trans (hb2.mono hb.out.size)).trans (hb3.out.mono (Nat.le_trans hb.out.size hb2.size))⟩
      rw [HS.out.2]
      exact .inr ⟨_, _, rfl, hc3.out⟩
    · have HS : Hid (siz 1 L = k ∧ errOf 1 L = none) := by
        have e := err_none (s := 1) (L := L) (by decide) hr (by rw [encS_I, hk]; exact hkl)
        exact ⟨by unfold siz; rw [e, encS_I, hk]; rfl, e⟩
      have hkI : ¬ (1048576 : Int) < (k : Int) := by omega
      clear hr hg hk h40 hpd
      go_wp2_with (first | (go_at_call 48; refine Calls.mono cs ?_; rintro e W2 ⟨rfl, hb2⟩) | fail)
      refine bodyPost_ret (v := .tuple #[.int .i64 (k : Int), .nilIface]) (by simp [results, Tryz.results31, go_sem]) rfl ⟨_, by rw [HS.out.1], ?_, hb.out.trans (hb2.mono hb.out.size)⟩
      exact .inl ⟨HS.out.2, rfl⟩
set_option maxRecDepth 100000 in
set_option maxHeartbeats 2000000 in
theorem size_E (w : World) (a : Option Addr) (n cap : Nat) (L : List Nd) (hV : NV w a n cap L) (hT : TagsOk L) (hE : EG w) : Calls Tryz.prog 31 #[.slice a n cap, .int .i64 2] w (SzP w 2 L) := by
  have cf := dformed_any w a n cap L hV hT hE
  have c := syntax_E w
  have HV : Hid (NV w a n cap L ∧ TagsOk L) := ⟨hV, hT⟩
  have hlen := hV.len
  have HN : Hid (n = L.length) := hlen
  clear hV hT hE hlen
  go_enter Tryz.func31, Tryz.ntmps31
  go_wp2_with (first | (go_at_call 26; refine Calls.mono c ?_; rintro e W0 ⟨rfl, rfl⟩) | (go_at_call 47; refine StopB.out ?_))
  refine ⟨Calls.mono cf ?_⟩
  rintro e W1 ⟨ve, rfl, hpd, hb⟩
  clear cf c
  rcases hr : (res L).2 with _ | _
  · obtain ⟨q, rfl, hc⟩ := hpd.out.err hr
    have HS : Hid (siz 2 L = 0 ∧ errOf 2 L = some ([(dsB, ((res L).1 : Int)), (dcB, ((res L).1 : Int))], 5)) := ⟨by unfold siz; rw [err_form (by decide) hr]; rfl, err_form (by decide) hr⟩
    have HC : Hid _ := hc
    clear hpd hr hc
    go_wp2
    refine bodyPost_ret (v := .tuple #[.int .i64 0, .iface 75 (.pointer (some ⟨q, 0, none⟩))]) (by simp [results, Tryz.results31, go_sem]) rfl ⟨_, by rw [HS.out.1]; rfl, ?_, hb.out⟩
    rw [HS.out.2]
    exact .inr ⟨_, _, rfl, HC.out⟩
  · obtain rfl := hpd.out.nil hr
    obtain ⟨h40, -⟩ := res_ok hr
    have hg := res_good hr
    have cs := szE_any W1 a n cap L (HV.out.1.on hb.out) HV.out.2 (by rw [HN.out]; exact h40) hg.sz
    obtain ⟨k, hk⟩ : ∃ k, encE.szP L = k := ⟨_, rfl⟩
    rw [hk] at cs
    have HK : Hid (encE.szP L = k) := hk
    by_cases hkl : 1048576 < k
    · have HS : Hid (siz 2 L = 0 ∧ errOf 2 L = some ([(dsB, 1048576)], 121)) := by
        have e := err_long (s := 2) (L := L) (by decide) hr (by rw [encS_E, hk]; exact hkl)
        exact ⟨by unfold siz; rw [e]; rfl, e⟩
      have hkI : (1048576 : Int) < (k : Int) := by omega
      clear hr hg hk h40 hpd
      go_wp2_with (first | (go_at_call 48; refine Calls.mono cs ?_; rintro e W2 ⟨rfl, hb2⟩) | (go_at_call 27; refine StopB.out ?_))
      refine ⟨Calls.mono (refuseN_any W2 1048576 121) ?_⟩
      rintro e W3 ⟨vr, rfl, hc3, hb3⟩
      obtain ⟨q, u, rfl, hr3⟩ := hc3.out
      clear hr3
      go_wp2
      refine bodyPost_ret (v := .tuple #[.int .i64 0, .iface 75 (.pointer (some ⟨q, 0, none⟩))]) (by simp [results, Tryz.results31, go_sem]) rfl ⟨_, by rw [HS.out.1]; rfl, ?_, (hb.out.trans (hb2.mono hb.out.size)).trans (hb3.out.mono (Nat.le_trans hb.out.size hb2.size))⟩
      rw [HS.out.2]
      exact .inr ⟨_, _, rfl, hc3.out⟩
    · have HS : Hid (siz 2 L = k ∧ errOf 2 L = none) := by
        have e := err_none (s := 2) (L := L) (by decide) hr (by rw [encS_E, hk]; exact hkl)
        exact ⟨by unfold siz; rw [e, encS_E, hk]; rfl, e⟩
      have hkI : ¬ (1048576 : Int) < (k : Int) := by omega
      clear hr hg hk h40 hpd
      go_wp2_with (first | (go_at_call 48; refine Calls.mono cs ?_; rintro e W2 ⟨rfl, hb2⟩) | fail)
      refine bodyPost_ret (v := .tuple #[.int .i64 (k : Int), .nilIface]) (by simp [results, Tryz.results31, go_sem]) rfl ⟨_, by rw [HS.out.1], ?_, hb.out.trans (hb2.mono hb.out.size)⟩
      exact .inl ⟨HS.out.2, rfl⟩
theorem size_any (w : World) (a : Option Addr) (n cap : Nat) (L : List Nd) (hV : NV w a n cap L) (hT : TagsOk L) (hE : EG w) (s : Int) : Calls Tryz.prog 31 #[.slice a n cap, .int .i64 s] w (SzP w s L) := by
  by_cases h1 : s = 1
  · subst h1; exact size_I w a n cap L hV hT hE
  · by_cases h2 : s = 2
    · subst h2; exact size_E w a n cap L hV hT hE
    · exact size_no w a n cap L s ⟨h1, h2⟩
end Go.Proofs.YtfoodjhffehgpaaGreatDoor
end

section
/-
  DERIVED. The bytes of a data set: the program's.
-/
namespace Go.Proofs.YtfoodjhffehgpaaGreatDoor
open Go Go.Proofs Go.RowKit
open Wk (Nd NV goN nxt)

/-- What Encode tells. -/
def EnP (w : World) (s : Int) (L : List Nd) (e : Ending) (w' : World) : Prop := ∃ u ve, e = .returned (.tuple #[u, ve]) ∧ Ob w.heap.size w' u (outB s L) ∧ (outB s L = [] → u = .slice none 0 0) ∧ PErr w' ve (errOf s L) ∧ Below w.heap.size w w'
theorem sz_pos (x : Bool) : ∀ L : List Nd, L ≠ [] → 0 < (encOf x).szP L
  | [], h => absurd rfl h
  | a :: r, _ => by
    have : 8 ≤ (encOf x).hs a := by
      cases x with
      | false => exact Nat.le_refl 8
      | true => show 8 ≤ (if Rp.lo (Rp.vn a.v) = true then 12 else 8); split <;> omega
    show 0 < (encOf x).sz1 a + (encOf x).szP r
    unfold Enc.sz1
    omega
theorem Ob.nil (base : Nat) (w : World) : Ob base w (.slice none 0 0) [] := World.ownsRow_nil _ _ _ _
theorem Ob.low {base b2 : Nat} {w : World} {u : Value} {ys : List UInt8} (h : Ob base w u ys) (hb : b2 ≤ base) : Ob b2 w u ys := Wk.own_base h hb

set_option maxRecDepth 100000 in
set_option maxHeartbeats 2000000 in
/-- Refused. -/
theorem enc_no (w : World) (a : Option Addr) (n cap : Nat) (L : List Nd) (hV : NV w a n cap L) (hT : TagsOk L) (hE : EG w) (s : Int) (he : (errOf s L).isSome = true) : Calls Tryz.prog 10 #[.slice a n cap, .int .i64 s] w (EnP w s L) := by
  have c := size_any w a n cap L hV hT hE s
  have HS : Hid (siz s L = 0 ∧ outB s L = []) := ⟨by unfold siz; rw [if_pos he], by unfold outB; rw [if_pos he]⟩
  have HE : Hid _ := he
  clear hV hT hE he
  go_enter Tryz.func10, Tryz.ntmps10
  go_wp2_with (go_at_call 31; refine StopB.out ?_)
  refine ⟨Calls.mono c ?_⟩
  rintro e W1 ⟨ve, rfl, hp, hb⟩
  rw [HS.out.1]
  obtain ⟨q, rfl⟩ : ∃ q, ve = .iface 75 (.pointer (some ⟨q, 0, none⟩)) := by
    rcases hp with ⟨h, -⟩ | ⟨ls, k, h, hc⟩
    · rw [h] at HE; cases HE.out
    · unfold errOf at h
      split at h
      · cases h; obtain ⟨q, u, h, -⟩ := hc; exact ⟨q, h⟩
      · split at h
        · cases h; obtain ⟨q, u, h, -⟩ := hc; exact ⟨q, h⟩
        · split at h
          · cases h; obtain ⟨q, u, h, -⟩ := hc; exact ⟨q, h⟩
          · cases h
  have HP : Hid _ := hp
  have HB : Hid _ := hb
  clear hp hb c
  go_wp2
  exact bodyPost_ret (v := .tuple #[.slice none 0 0, .iface 75 (.pointer (some ⟨q, 0, none⟩))]) (by simp [results, Tryz.results10, go_sem]) rfl ⟨_, _, rfl, by rw [HS.out.2]; exact Ob.nil _ _, fun _ => rfl, HP.out, HB.out⟩
set_option maxRecDepth 100000 in
set_option maxHeartbeats 2000000 in
theorem enc_I (w : World) (a : Option Addr) (n cap : Nat) (L : List Nd) (hV : NV w a n cap L) (hT : TagsOk L) (hE : EG w) (he : errOf 1 L = none) : Calls Tryz.prog 10 #[.slice a n cap, .int .i64 1] w (EnP w 1 L) := by
  have c := size_any w a n cap L hV hT hE 1
  have hr : (res L).2 = true := by
    rcases hr : (res L).2 with _ | _
    · rw [err_form (by decide) hr] at he; cases he
    · rfl
  have hl : encI.szP L ≤ 1048576 := by
    rcases Nat.lt_or_ge 1048576 (encI.szP L) with h | h
    · rw [err_long (s := 1) (by decide) hr h] at he; cases he
    · exact h
  obtain ⟨k, hk⟩ : ∃ k, encI.szP L = k := ⟨_, rfl⟩
  have HS : Hid (siz 1 L = k ∧ outB 1 L = encI.wP L) := ⟨by unfold siz; rw [he]; exact hk, by unfold outB; rw [he]; rfl⟩
  have HK : Hid (encI.szP L = k) := hk
  rw [hk] at hl
  have HE : Hid (errOf 1 L = none) := he
  have HR : Hid ((res L).2 = true) := hr
  have HV : Hid (NV w a n cap L ∧ TagsOk L) := ⟨hV, hT⟩
  have cx := fun X => syntax_I X
  clear hV hT hE he hk hr
  go_enter Tryz.func10, Tryz.ntmps10
  go_wp2_with (go_at_call 31; refine StopB.out ?_)
  refine ⟨Calls.mono c ?_⟩
  rintro e W1 ⟨ve, rfl, hp, hb⟩
  rw [HS.out.1]
  obtain rfl : ve = .nilIface := by
    rcases hp with ⟨-, h⟩ | ⟨ls, q, h, -⟩
    · exact h
    · rw [HE.out] at h; cases h
  have HB : Hid _ := hb
  clear hp hb c
  by_cases hL : L = []
  · have HO : Hid (k = 0 ∧ outB 1 L = []) := by
      refine ⟨?_, ?_⟩
      · rw [← HK.out, hL]; rfl
      · rw [HS.out.2, hL]; rfl
    obtain rfl := HO.out.1
    clear hL
    go_wp2
    exact bodyPost_ret (v := .tuple #[.slice none 0 0, .nilIface]) (by simp [results, Tryz.results10, go_sem]) rfl ⟨_, _, rfl, by rw [HO.out.2]; exact Ob.nil _ _, fun _ => rfl, .inl ⟨HE.out, rfl⟩, HB.out⟩
  · have hk0 : 0 < k := by rw [← HK.out]; exact sz_pos false L hL
    have hk0I : ¬ (k : Int) = 0 := by omega
    have hk0b : ((k : Int) == 0) = false := beq_eq_false_iff_ne.2 (by omega)
    have hn0 : 0 < n := by
      have := HV.out.1.len
      rcases Nat.eq_zero_or_pos n with h | h
      · exact absurd (List.length_eq_zero_iff.1 (by omega)) hL
      · exact h
    obtain ⟨b, off, rfl, hat⟩ := HV.out.1.lies hn0
    have hbl : b < w.heap.size := Wk.cell_lt (hat 0 (by have := HV.out.1.len; omega)).1
    have HBL : Hid (b < W1.heap.size) := Nat.lt_of_lt_of_le hbl HB.out.size
    obtain ⟨i0, hi, hz0, hz1, hz2⟩ := info_parts info8
    have HZ : Hid (i0.bytes = 1) := hz2
    clear hat hbl hL
    go_wp2_with (first | (go_at_call 26; refine Calls.mono (cx _) ?_; rintro e W2 ⟨rfl, rfl⟩) | (at_make; refine wpList_make_own _ rfl _ _ 31 rfl W1.heap.size 5 i0 _ 1 Tryz.underlying31 hi hz0 hz1 .i64 .i64 _ k rfl rfl ?_ ?_ ?_ ?_ ?_) | fail)
    · rfl
    · rw [HZ.out]; omega
    · unfold maxLen; omega
    · exact Nat.le_refl _
    · intro W3 hown hgr
      have hb3 : Below W1.heap.size W1 W3 := (Below.refl _ _).grown hgr (Nat.le_refl _) (by simp)
      have HB3 : Hid _ := hb3
      have cw := wrI_any L.length W3 W1.heap.size b off n cap L (.slice (some ⟨W1.heap.size, 0, none⟩) 0 k) [] (Nat.le_refl _) ⟨(HV.out.1.on HB.out).on hb3, HBL.out, HV.out.2, res_good HR.out, by rw [HV.out.1.len]; exact (res_ok HR.out).1, by rw [HK.out]; simp; omega, hown, hb3.size⟩
      clear hgr hown hb3
      go_wp2_with (go_at_call 32; refine StopB.out ?_)
      refine ⟨Calls.mono cw ?_⟩
      rintro e W4 ⟨u, rfl, ho, hby⟩
      have hne : encI.wP L ≠ [] := by
        intro h
        have h2 : (encI.wP L).length = encI.szP L := wr_len false _ L (Nat.le_refl _) (res_good HR.out)
        rw [h, HK.out] at h2
        simp at h2
        omega
      have hB4 : Below W1.heap.size W1 W4 := HB3.out.trans hby.out.b
      have HF : Hid (Ob w.heap.size W4 u (outB 1 L) ∧ (outB 1 L = [] → u = .slice none 0 0) ∧ PErr W4 .nilIface (errOf 1 L) ∧ Below w.heap.size w W4) := ⟨by rw [HS.out.2]; exact ho.out.low HB.out.size, fun h => by rw [HS.out.2] at h; exact absurd h hne, .inl ⟨HE.out, rfl⟩, HB.out.trans (hB4.mono HB.out.size)⟩
      obtain ⟨ua, un, uc, rfl⟩ : ∃ ua un uc, u = .slice ua un uc := by
        rcases ho.out.2 with ⟨h, -⟩ | ⟨g, cp, cur, h, -⟩
        · exact ⟨_, _, _, h⟩
        · exact ⟨_, _, _, h⟩
      clear ho hby hne hB4 cw
      go_wp2
      exact bodyPost_ret (v := .tuple #[.slice ua un uc, .nilIface]) (by simp [results, Tryz.results10, go_sem]) rfl ⟨_, _, rfl, HF.out⟩
set_option maxRecDepth 100000 in
set_option maxHeartbeats 2000000 in
theorem enc_E (w : World) (a : Option Addr) (n cap : Nat) (L : List Nd) (hV : NV w a n cap L) (hT : TagsOk L) (hE : EG w) (he : errOf 2 L = none) : Calls Tryz.prog 10 #[.slice a n cap, .int .i64 2] w (EnP w 2 L) := by
  have c := size_any w a n cap L hV hT hE 2
  have hr : (res L).2 = true := by
    rcases hr : (res L).2 with _ | _
    · rw [err_form (by decide) hr] at he; cases he
    · rfl
  have hl : encE.szP L ≤ 1048576 := by
    rcases Nat.lt_or_ge 1048576 (encE.szP L) with h | h
    · rw [err_long (s := 2) (by decide) hr h] at he; cases he
    · exact h
  obtain ⟨k, hk⟩ : ∃ k, encE.szP L = k := ⟨_, rfl⟩
  have HS : Hid (siz 2 L = k ∧ outB 2 L = encE.wP L) := ⟨by unfold siz; rw [he]; exact hk, by unfold outB; rw [he]; rfl⟩
  have HK : Hid (encE.szP L = k) := hk
  rw [hk] at hl
  have HE : Hid (errOf 2 L = none) := he
  have HR : Hid ((res L).2 = true) := hr
  have HV : Hid (NV w a n cap L ∧ TagsOk L) := ⟨hV, hT⟩
  have cx := fun X => syntax_E X
  clear hV hT hE he hk hr
  go_enter Tryz.func10, Tryz.ntmps10
  go_wp2_with (go_at_call 31; refine StopB.out ?_)
  refine ⟨Calls.mono c ?_⟩
  rintro e W1 ⟨ve, rfl, hp, hb⟩
  rw [HS.out.1]
  obtain rfl : ve = .nilIface := by
    rcases hp with ⟨-, h⟩ | ⟨ls, q, h, -⟩
    · exact h
    · rw [HE.out] at h; cases h
  have HB : Hid _ := hb
  clear hp hb c
  by_cases hL : L = []
  · have HO : Hid (k = 0 ∧ outB 2 L = []) := by
      refine ⟨?_, ?_⟩
      · rw [← HK.out, hL]; rfl
      · rw [HS.out.2, hL]; rfl
    obtain rfl := HO.out.1
    clear hL
    go_wp2
    exact bodyPost_ret (v := .tuple #[.slice none 0 0, .nilIface]) (by simp [results, Tryz.results10, go_sem]) rfl ⟨_, _, rfl, by rw [HO.out.2]; exact Ob.nil _ _, fun _ => rfl, .inl ⟨HE.out, rfl⟩, HB.out⟩
  · have hk0 : 0 < k := by rw [← HK.out]; exact sz_pos true L hL
    have hk0I : ¬ (k : Int) = 0 := by omega
    have hk0b : ((k : Int) == 0) = false := beq_eq_false_iff_ne.2 (by omega)
    have hn0 : 0 < n := by
      have := HV.out.1.len
      rcases Nat.eq_zero_or_pos n with h | h
      · exact absurd (List.length_eq_zero_iff.1 (by omega)) hL
      · exact h
    obtain ⟨b, off, rfl, hat⟩ := HV.out.1.lies hn0
    have hbl : b < w.heap.size := Wk.cell_lt (hat 0 (by have := HV.out.1.len; omega)).1
    have HBL : Hid (b < W1.heap.size) := Nat.lt_of_lt_of_le hbl HB.out.size
    obtain ⟨i0, hi, hz0, hz1, hz2⟩ := info_parts info8
    have HZ : Hid (i0.bytes = 1) := hz2
    clear hat hbl hL
    go_wp2_with (first | (go_at_call 26; refine Calls.mono (cx _) ?_; rintro e W2 ⟨rfl, rfl⟩) | (at_make; refine wpList_make_own _ rfl _ _ 31 rfl W1.heap.size 5 i0 _ 1 Tryz.underlying31 hi hz0 hz1 .i64 .i64 _ k rfl rfl ?_ ?_ ?_ ?_ ?_) | fail)
    · rfl
    · rw [HZ.out]; omega
    · unfold maxLen; omega
    · exact Nat.le_refl _
    · intro W3 hown hgr
      have hb3 : Below W1.heap.size W1 W3 := (Below.refl _ _).grown hgr (Nat.le_refl _) (by simp)
      have HB3 : Hid _ := hb3
      have cw := wrE_any L.length W3 W1.heap.size b off n cap L (.slice (some ⟨W1.heap.size, 0, none⟩) 0 k) [] (Nat.le_refl _) ⟨(HV.out.1.on HB.out).on hb3, HBL.out, HV.out.2, res_good HR.out, by rw [HV.out.1.len]; exact (res_ok HR.out).1, by rw [HK.out]; simp; omega, hown, hb3.size⟩
      clear hgr hown hb3
      go_wp2_with (go_at_call 32; refine StopB.out ?_)
      refine ⟨Calls.mono cw ?_⟩
      rintro e W4 ⟨u, rfl, ho, hby⟩
      have hne : encE.wP L ≠ [] := by
        intro h
        have h2 : (encE.wP L).length = encE.szP L := wr_len true _ L (Nat.le_refl _) (res_good HR.out)
        rw [h, HK.out] at h2
        simp at h2
        omega
      have hB4 : Below W1.heap.size W1 W4 := HB3.out.trans hby.out.b
      have HF : Hid (Ob w.heap.size W4 u (outB 2 L) ∧ (outB 2 L = [] → u = .slice none 0 0) ∧ PErr W4 .nilIface (errOf 2 L) ∧ Below w.heap.size w W4) := ⟨by rw [HS.out.2]; exact ho.out.low HB.out.size, fun h => by rw [HS.out.2] at h; exact absurd h hne, .inl ⟨HE.out, rfl⟩, HB.out.trans (hB4.mono HB.out.size)⟩
      obtain ⟨ua, un, uc, rfl⟩ : ∃ ua un uc, u = .slice ua un uc := by
        rcases ho.out.2 with ⟨h, -⟩ | ⟨g, cp, cur, h, -⟩
        · exact ⟨_, _, _, h⟩
        · exact ⟨_, _, _, h⟩
      clear ho hby hne hB4 cw
      go_wp2
      exact bodyPost_ret (v := .tuple #[.slice ua un uc, .nilIface]) (by simp [results, Tryz.results10, go_sem]) rfl ⟨_, _, rfl, HF.out⟩
theorem encode_any (w : World) (a : Option Addr) (n cap : Nat) (L : List Nd) (hV : NV w a n cap L) (hT : TagsOk L) (hE : EG w) (s : Int) : Calls Tryz.prog 10 #[.slice a n cap, .int .i64 s] w (EnP w s L) := by
  rcases he : errOf s L with _ | x
  · by_cases h1 : s = 1
    · subst h1; exact enc_I w a n cap L hV hT hE he
    · by_cases h2 : s = 2
      · subst h2; exact enc_E w a n cap L hV hT hE he
      · rw [err_bad ⟨h1, h2⟩] at he; cases he
  · exact enc_no w a n cap L hV hT hE s (by rw [he]; rfl)
end Go.Proofs.YtfoodjhffehgpaaGreatDoor
end
