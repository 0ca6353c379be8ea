import Derived.Test.YtohojghndnfgdaaDoorPo
import Derived.Deep.MidRow
/-
  DERIVED. The document's PrintName.
-/
namespace Go.Proofs.YtohojghndnfgdaaDoor
open Go Go.Proofs Go.RowKit

/-- One more group's text. -/
def stp (a : ByteArray × ByteArray) (t : ByteArray) : ByteArray × ByteArray := if t.toList.isEmpty = true then (a.1, a.2 ++ ⟨#[61]⟩) else ((a.1 ++ a.2) ++ t, ⟨#[61]⟩)
def dst (ts : List ByteArray) : ByteArray × ByteArray := ts.foldl stp (⟨#[]⟩, ⟨#[]⟩)
theorem dst_snoc (ts : List ByteArray) (t : ByteArray) : dst (ts ++ [t]) = stp (dst ts) t := by unfold dst; rw [List.foldl_append]; rfl
theorem ext_list {x y : ByteArray} (h : x.data.toList = y.data.toList) : x = y := by
  cases x; cases y
  exact congrArg _ (Array.toList_inj.1 h)
theorem dst_top (a b c : ByteArray) : (dst [a, b, c]).1 = topB [a, b, c] := by
  have key : ∀ x : ByteArray, (x.toList.isEmpty = true ∧ x.data.toList = []) ∨ (x.toList.isEmpty = false ∧ ∃ h l, x.data.toList = h :: l) := fun x => by
    rw [ByteArray.toList_eq]
    cases hx : x.data.toList with
    | nil => exact .inl ⟨rfl, rfl⟩
    | cons h l => exact .inr ⟨rfl, h, l, rfl⟩
  apply ext_list
  show _ = (Lib.join (dropE [a.data.toList, b.data.toList, c.data.toList]) [61]).toArray.toList
  rw [List.toList_toArray]
  unfold dst
  simp only [List.foldl_cons, List.foldl_nil]
  rcases key a with ⟨ea, la⟩ | ⟨ea, ha, ta, la⟩ <;> rcases key b with ⟨eb, lb⟩ | ⟨eb, hb, tb, lb⟩ <;> rcases key c with ⟨ec, lc⟩ | ⟨ec, hc, tc, lc⟩ <;> simp [stp, ea, eb, ec, la, lb, lc, dropE, Lib.join, List.intercalate]
theorem dst_size : ∀ (n : Nat) (ts : List ByteArray), ts.length = n → (∀ x ∈ ts, x.size ≤ 5242885) → (dst ts).1.size + (dst ts).2.size ≤ 5242886 * ts.length
  | 0, ts, hn, _ => by
    obtain rfl : ts = [] := List.length_eq_zero_iff.1 hn
    show 0 + 0 ≤ _; omega
  | n + 1, us, hn, h => by
    obtain ⟨ts, t, rfl⟩ : ∃ ts t, us = ts ++ [t] := ⟨us.dropLast, us.getLast (by rintro rfl; simp at hn), (List.dropLast_concat_getLast _).symm⟩
    have i1 := dst_size n ts (by simpa using hn) (fun x hx => h x (by simp [hx]))
    have i2 := h t (by simp)
    rw [dst_snoc, List.length_append, List.length_singleton]
    unfold stp
    split
    · show (dst ts).1.size + ((dst ts).2 ++ ⟨#[61]⟩).size ≤ _
      rw [ByteArray.size_append]
      show (dst ts).1.size + ((dst ts).2.size + 1) ≤ _
      omega
    · show (((dst ts).1 ++ (dst ts).2) ++ t).size + 1 ≤ _
      rw [ByteArray.size_append, ByteArray.size_append]
      omega
structure DP (w wx : World) (B : Nat) (P : List (List ByteArray)) : Prop where
  box : wx.rowIs B 25 15 (f15 P)
  flt : wx.rowIs (B + 1) 32 2 fN
  bel : Below B w wx
theorem DP.on {w wx wy : World} {B : Nat} {P : List (List ByteArray)} (h : DP w wx B P) (hb : Below wx.heap.size wx wy) : DP w wy B P :=
  ⟨h.box.of_block (hb.block _ h.box.lt), h.flt.of_block (hb.block _ h.flt.lt), h.bel.trans (hb.mono (Nat.le_of_lt h.box.lt))⟩
theorem DP.at {w wx : World} {B : Nat} {P : List (List ByteArray)} (h : DP w wx B P) (g c : Nat) (hg : g < 3) (hc : c < 5) : wx.cell? ⟨B, g * 5 + c, none⟩ = some (.string (t5 (P.getD g []) c)) := by
  have := h.box.cell (i := g * 5 + c) (by omega)
  rw [this]
  unfold f15 t15
  rw [show (g * 5 + c) / 5 = g by omega, show (g * 5 + c) % 5 = c by omega]
theorem DP.range {w wx : World} {B : Nat} {P : List (List ByteArray)} (h : DP w wx B P) (g : Nat) (hg : g < 3) : wx.rangeAt B (g * 5) (a5 (P.getD g [])).toList := fun j v hv => by
  have hj : j < 5 := (List.getElem?_eq_some_iff.1 hv).1
  rw [h.at g j hg hj]
  rw [a5_list] at hv
  rcases (by omega : j = 0 ∨ j = 1 ∨ j = 2 ∨ j = 3 ∨ j = 4) with rfl | rfl | rfl | rfl | rfl <;> exact hv
theorem GT_bad {L : List ByteArray} {c : Nat} (hc : c < 5) (h : ∀ j, j < c → okc (t5 L j) = true) (hb : okc (t5 L c) = false) : (GT L).1 = some (c, 102) := by
  unfold GT
  rw [gE_at hc h hb]
theorem GT_good {L : List ByteArray} (h : ∀ j, j < 5 → okc (t5 L j) = true) : GT L = if 64 < rn (gB L) 0 then (some (0, 103), ⟨#[]⟩) else (none, gB L) := by
  unfold GT
  rw [gE_none h]

set_option maxRecDepth 100000 in
set_option maxHeartbeats 6000000 in
theorem rprint7_any (w : World) (P : List (List ByteArray)) (hP3 : P.length = 3) (hP : ∀ g j, j < 5 → (t5 (P.getD g []) j).size ≤ 1048576) : Calls Tryd.prog 7 #[.agg (a15 P)] w fun e w' => ∃ v, e = .returned (.tuple #[.string (PRN P).2, v]) ∧ RErr w' v (PRN P).1 ∧ Below w.heap.size w w' := by
  obtain ⟨B, hB⟩ : ∃ B, w.heap.size = B := ⟨_, rfl⟩
  obtain ⟨R1, R2, hR⟩ : ∃ a b, PRN P = (a, b) := ⟨_, _, rfl⟩
  rw [hR]
  have HR : Hid (PRN P = (R1, R2)) := hR
  clear hR
  dsimp only
  have HPP : Hid (∀ g j, j < 5 → (t5 (P.getD g []) j).size ≤ 1048576) := hP
  have HP3 : Hid (P.length = 3) := hP3
  clear hP hP3
  obtain ⟨W0, hW0⟩ : ∃ W0, (w.alloc (.cells (a15 P) 25)).alloc (.cells #[.slice none 0 0, .int .i64 0] 32) = W0 := ⟨_, rfl⟩
  have HD0 : Hid (DP w W0 B P) := by
    have r1 := block_row (w := w.alloc (.cells (a15 P) 25)) (q := B) (acc := P) (by rw [← hB]; exact heap_alloc_new _ _)
    have r2 := frow (w.alloc (.cells (a15 P) 25))
    rw [World.size_alloc, hB] at r2
    rw [← hW0]
    exact ⟨r1.alloc _, r2, ((Below.refl _ w).alloc (by omega) _).alloc (by simp; omega) _⟩
  obtain ⟨E, TS, hE⟩ : ∃ e ts, prn 0 P [] = (e, ts) := ⟨_, _, rfl⟩
  have HE0 : Hid (prn 0 (P.drop 0) [] = (E, TS)) := hE
  have HRR : Hid ((∀ x, E = some x → R1 = some x ∧ R2 = ⟨#[]⟩) ∧ (E = none → R1 = none ∧ R2 = topB TS)) := by
    have h2 := HR.out
    unfold PRN at h2
    rw [hE] at h2
    cases E with
    | some x => obtain ⟨rfl, rfl⟩ := Prod.mk.inj h2; exact ⟨fun y hy => ⟨hy, rfl⟩, fun h => by cases h⟩
    | none => obtain ⟨rfl, rfl⟩ := Prod.mk.inj h2; exact ⟨fun y hy => (by cases hy), fun _ => ⟨rfl, rfl⟩⟩
  clear hE HR
  obtain ⟨A, hA⟩ : ∃ A, a15 P = A := ⟨_, rfl⟩
  rw [hA] at hW0 ⊢
  clear hA
  go_enter Tryd.func7, Tryd.ntmps7
  go_wp2
  go_loopg [4, 5, 6] 3 (fun g s4 s5 s6 wx => ∃ (ts : List ByteArray) (S M : ByteArray), s4 = .string S ∧ s5 = .string M ∧ s6 = .int .i64 (ts.length : Int) ∧ g + ts.length = 3 ∧ S.size + M.size ≤ 5242886 * ts.length ∧ Hid ((S, M) = dst ts) ∧ Hid (prn ts.length (P.drop ts.length) ts = (E, TS)) ∧ Hid (∀ x ∈ ts, x.size ≤ 5242885) ∧ Hid (DP w wx B P))
  case atStart => exact ⟨[], ⟨#[]⟩, ⟨#[]⟩, rfl, rfl, rfl, rfl, by show 0 + 0 ≤ _; omega, rfl, HE0, (fun x hx => by cases hx), HD0⟩
  case round =>
    clear HE0 HD0 hW0
    obtain ⟨ts, S, M, rfl, rfl, rfl, hg, hSM, HS, HE, HTs, HD⟩ := hrel
    by_cases hlt : ts.length < 3
    · have hltI : (ts.length : Int) < 3 := by omega
      have hlp : ts.length < P.length := by rw [HP3.out]; exact hlt
      have hdr : P.drop ts.length = P.getD ts.length [] :: P.drop (ts.length + 1) := by
        rw [List.drop_eq_getElem_cons hlp, List.getD, List.getElem?_eq_getElem hlp]
        rfl
      have hEE := HE.out
      rw [hdr, prn] at hEE
      have hsz5 := HPP.out ts.length
      have hcell := fun W (h : DP w W B P) c hc => h.at ts.length c hlt hc
      have hrange := fun W (h : DP w W B P) => h.range ts.length hlt
      obtain ⟨L, hL⟩ : ∃ L, P.getD ts.length [] = L := ⟨_, rfl⟩
      rw [hL] at hEE hsz5 hcell hrange
      have HEE : Hid _ := hEE
      have HC : Hid (∀ W, DP w W B P → ∀ c, c < 5 → W.cell? ⟨B, ts.length * 5 + c, none⟩ = some (.string (t5 L c))) := hcell
      have HG : Hid (∀ W, DP w W B P → W.rangeAt B (ts.length * 5) (a5 L).toList) := hrange
      have H5 : Hid (∀ j, j < 5 → (t5 L j).size ≤ 1048576) := hsz5
      clear hdr hEE HE hL hsz5 hcell hrange
      go_wp2
      go_loopg [7] 5 (fun g s7 wx => ∃ (c : Nat), s7 = .int .i64 (c : Int) ∧ g + c = 5 ∧ Hid (∀ j, j < c → okc (t5 L j) = true) ∧ wr = wx)
      case atStart => exact ⟨0, rfl, rfl, (fun j h => absurd h (Nat.not_lt_zero _)), rfl⟩
      case round =>
        obtain ⟨c, rfl, hgc, HJ, rfl⟩ := hrel
        by_cases hc : c < 5
        · have hcI : (c : Int) < 5 := by omega
          have kc := HC.out wr HD.out c hc
          have hxs := H5.out c hc
          obtain ⟨x, hx⟩ : ∃ x, t5 L c = x := ⟨_, rfl⟩
          rw [hx] at kc hxs
          have HX : Hid (t5 L c = x) := hx
          have HF0 : Hid (okF x (x.size - 0) 0 = okc x) := okF_all x
          clear hx
          go_wp2
          go_loopg [8] x.size (fun g s8 wx => ∃ (i : Nat), s8 = .int .i64 (i : Int) ∧ g + i = x.size ∧ Hid (okF x (x.size - i) i = okc x) ∧ wr = wx)
          case atStart => exact ⟨0, rfl, by omega, HF0, rfl⟩
          case round =>
            clear HF0
            obtain ⟨i, rfl, hgi, HF, rfl⟩ := hrel
            by_cases hi : i < x.size
            · have hiI : (i : Int) < (x.size : Int) := by omega
              obtain ⟨b, hb⟩ : ∃ b, x[i].toNat = b := ⟨_, rfl⟩
              have hgb : (x.get! i).toNat = b := by rw [← get_get! x i hi, hb]
              have hFF := HF.out
              rw [show x.size - i = (x.size - (i + 1)) + 1 by omega, okF, hgb] at hFF
              have c14 := bars_any wr (b : Int)
              clear hgb HF
              cases hok : okb b with
              | true =>
                rw [hok, Bool.true_and] at hFF
                have HF2 : Hid (okF x (x.size - (i + 1)) (i + 1) = okc x) := hFF
                unfold okb at hok
                simp only [Bool.not_eq_true', Bool.or_eq_false_iff, decide_eq_false_iff_not] at hok
                obtain ⟨h1, h2, h3⟩ := hok
                rw [h1] at c14
                have e94 : ((b : Int) == 94) = false := by simpa using (by omega : ¬ (b : Int) = 94)
                have e61 : ((b : Int) == 61) = false := by simpa using (by omega : ¬ (b : Int) = 61)
                clear h1 h2 h3 hFF
                go_wp2_with (go_at_call 14; refine c14.mono ?_; rintro e W ⟨rfl, rfl⟩)
                go_roundg (x.size - (i + 1))
                case measure => omega
                case rel => exact ⟨i + 1, by first | rfl | simp, by omega, HF2, rfl⟩
              | false =>
                rw [hok, Bool.false_and] at hFF
                have hgt := GT_bad hc HJ.out (by rw [HX.out]; exact hFF.symm)
                unfold okb at hok
                simp only [Bool.not_eq_false', Bool.or_eq_true, decide_eq_true_eq] at hok
                have h3 : ((b : Int) == 94) = true ∨ (((b : Int) == 94) = false ∧ ((b : Int) == 61) = true) ∨ (((b : Int) == 94) = false ∧ ((b : Int) == 61) = false ∧ barI (b : Int) = true) := by
                  by_cases q1 : b = 94
                  · exact .inl (by rw [q1]; rfl)
                  · have q1' : ((b : Int) == 94) = false := by simpa using (by omega : ¬ (b : Int) = 94)
                    by_cases q2 : b = 61
                    · exact .inr (.inl ⟨q1', by rw [q2]; rfl⟩)
                    · refine .inr (.inr ⟨q1', by simpa using (by omega : ¬ (b : Int) = 61), ?_⟩)
                      rcases hok with h | h | h
                      · exact h
                      · exact absurd h q1
                      · exact absurd h q2
                have hEE := HEE.out
                rw [hgt] at hEE
                dsimp only at hEE
                obtain ⟨g1, g2⟩ := Prod.mk.inj hEE
                obtain ⟨rfl, rfl⟩ := HRR.out.1 _ g1.symm
                have hpl : ((5 * ts.length : Nat) : Int) + (c : Int) = 5 * (ts.length : Int) + (c : Int) := by omega
                have HPL : Hid _ := hpl
                clear hok hFF hgt hEE g1 g2 HEE HRR hpl HJ
                rcases h3 with h | ⟨h, h4⟩ | ⟨h, h4, h5⟩
                · clear c14
                  have c13 := no_any (5 * (ts.length : Int) + (c : Int)) 102 wr
                  go_wp2_with (go_at_call 13; refine Stop.mk ?_)
                  refine Stop.out (c13.mono ?_)
                  rintro e W9 ⟨v9, rfl, hv9, hb9⟩
                  have HD9 := (HD.out).on hb9
                  have HV9 : Hid (RErr W9 v9 (some ((5 * (ts.length : Int) + (c : Int)), 102))) := hv9
                  obtain ⟨g9, k9, rfl, _, _⟩ := hv9
                  have a0 : W9.cell? ⟨B + 1, 0, none⟩ = some (.slice none 0 0) := HD9.flt.cell (i := 0) (by omega)
                  have a1 : W9.cell? ⟨B + 1, 1, none⟩ = some (.int .i64 0) := HD9.flt.cell (i := 1) (by omega)
                  have af : ∀ i, W9.frozen? ⟨B + 1, i, none⟩ = false := fun i => HD9.flt.frozen i
                  obtain ⟨p0, p1, p2⟩ := putF_all HD9.flt (.slice (some ⟨g9, 0, none⟩) 1 k9) (.int .i64 102) rfl
                  have HDB : Hid _ := putF_below HD9.bel (Nat.le_succ _) (.slice (some ⟨g9, 0, none⟩) 1 k9) (.int .i64 102)
                  have HDV : Hid (RErr _ _ _) := p2 HV9.out
                  clear c13 hb9 HD9 HV9 p2
                  unfold putF at *
                  go_wp2
                  refine bodyPost_ret (v := .tuple #[.string ⟨#[]⟩, .agg #[.slice (some ⟨g9, 0, none⟩) 1 k9, .int .i64 102]]) (by simp [results, Tryd.results7, go_sem, p0, p1]) rfl ⟨_, rfl, by first | exact HDV.out | (rw [HPL.out]; exact HDV.out), by first | exact HDB.out | (rw [hB]; exact HDB.out)⟩
                · clear c14
                  have c13 := no_any (5 * (ts.length : Int) + (c : Int)) 102 wr
                  go_wp2_with (go_at_call 13; refine Stop.mk ?_)
                  refine Stop.out (c13.mono ?_)
                  rintro e W9 ⟨v9, rfl, hv9, hb9⟩
                  have HD9 := (HD.out).on hb9
                  have HV9 : Hid (RErr W9 v9 (some ((5 * (ts.length : Int) + (c : Int)), 102))) := hv9
                  obtain ⟨g9, k9, rfl, _, _⟩ := hv9
                  have a0 : W9.cell? ⟨B + 1, 0, none⟩ = some (.slice none 0 0) := HD9.flt.cell (i := 0) (by omega)
                  have a1 : W9.cell? ⟨B + 1, 1, none⟩ = some (.int .i64 0) := HD9.flt.cell (i := 1) (by omega)
                  have af : ∀ i, W9.frozen? ⟨B + 1, i, none⟩ = false := fun i => HD9.flt.frozen i
                  obtain ⟨p0, p1, p2⟩ := putF_all HD9.flt (.slice (some ⟨g9, 0, none⟩) 1 k9) (.int .i64 102) rfl
                  have HDB : Hid _ := putF_below HD9.bel (Nat.le_succ _) (.slice (some ⟨g9, 0, none⟩) 1 k9) (.int .i64 102)
                  have HDV : Hid (RErr _ _ _) := p2 HV9.out
                  clear c13 hb9 HD9 HV9 p2
                  unfold putF at *
                  go_wp2
                  refine bodyPost_ret (v := .tuple #[.string ⟨#[]⟩, .agg #[.slice (some ⟨g9, 0, none⟩) 1 k9, .int .i64 102]]) (by simp [results, Tryd.results7, go_sem, p0, p1]) rfl ⟨_, rfl, by first | exact HDV.out | (rw [HPL.out]; exact HDV.out), by first | exact HDB.out | (rw [hB]; exact HDB.out)⟩
                · rw [h5] at c14
                  go_wp2_with (go_at_call 14; refine Stop.mk ?_)
                  refine Stop.out (c14.mono ?_)
                  rintro e W ⟨rfl, rfl⟩
                  clear c14
                  have c13 := no_any (5 * (ts.length : Int) + (c : Int)) 102 wr
                  go_wp2_with (go_at_call 13; refine Stop.mk ?_)
                  refine Stop.out (c13.mono ?_)
                  rintro e W9 ⟨v9, rfl, hv9, hb9⟩
                  have HD9 := (HD.out).on hb9
                  have HV9 : Hid (RErr W9 v9 (some ((5 * (ts.length : Int) + (c : Int)), 102))) := hv9
                  obtain ⟨g9, k9, rfl, _, _⟩ := hv9
                  have a0 : W9.cell? ⟨B + 1, 0, none⟩ = some (.slice none 0 0) := HD9.flt.cell (i := 0) (by omega)
                  have a1 : W9.cell? ⟨B + 1, 1, none⟩ = some (.int .i64 0) := HD9.flt.cell (i := 1) (by omega)
                  have af : ∀ i, W9.frozen? ⟨B + 1, i, none⟩ = false := fun i => HD9.flt.frozen i
                  obtain ⟨p0, p1, p2⟩ := putF_all HD9.flt (.slice (some ⟨g9, 0, none⟩) 1 k9) (.int .i64 102) rfl
                  have HDB : Hid _ := putF_below HD9.bel (Nat.le_succ _) (.slice (some ⟨g9, 0, none⟩) 1 k9) (.int .i64 102)
                  have HDV : Hid (RErr _ _ _) := p2 HV9.out
                  clear c13 hb9 HD9 HV9 p2
                  unfold putF at *
                  go_wp2
                  refine bodyPost_ret (v := .tuple #[.string ⟨#[]⟩, .agg #[.slice (some ⟨g9, 0, none⟩) 1 k9, .int .i64 102]]) (by simp [results, Tryd.results7, go_sem, p0, p1]) rfl ⟨_, rfl, by first | exact HDV.out | (rw [HPL.out]; exact HDV.out), by first | exact HDB.out | (rw [hB]; exact HDB.out)⟩
            · have hiI : ¬ ((i : Int) < (x.size : Int)) := by omega
              have hFF := HF.out
              rw [show x.size - i = 0 by omega, okF] at hFF
              have HJ2 : Hid (∀ j, j < c + 1 → okc (t5 L j) = true) := fun j hj => by
                by_cases hjc : j = c
                · subst hjc; rw [HX.out]; exact hFF.symm
                · exact HJ.out j (by omega)
              clear HF hFF HJ HX
              go_wp2
              go_roundg (5 - (c + 1))
              case measure => omega
              case rel => exact ⟨c + 1, by first | rfl | simp, by omega, HJ2, rfl⟩
        · obtain rfl : c = 5 := by omega
          have hgt := GT_good HJ.out
          have hrg := HG.out wr HD.out
          have c20 := fun W => group20_any W L H5.out
          have hgs := gB_size L H5.out
          obtain ⟨G, hG⟩ : ∃ G, gB L = G := ⟨_, rfl⟩
          rw [hG] at hgt c20 hgs
          obtain ⟨A5, hA5⟩ : ∃ A5, a5 L = A5 := ⟨_, rfl⟩
          have hi22 : (Tryd.prog.info? 22).map (·.size) = some A5.toList.length := by rw [← hA5]; exact info22
          rw [hA5] at hrg c20
          have HGT : Hid _ := hgt
          clear hgt hG hA5 HJ
          go_wp2_with (first | (go_at_call 20; refine Stop.mk ?_) | (refine wpList_load_mid rfl 22 (.tmp 56) rfl B (ts.length * 5) rfl A5.toList _ hrg Tryd.underlying22 rfl hi22 ?_))
          refine Stop.out ((c20 _).mono ?_)
          rintro e W1 ⟨rfl, hb1⟩
          have HD1 : Hid (DP w W1 B P) := HD.out.on hb1
          have c15 := relements_any W1 G (by omega)
          clear c20 hb1 HD hrg
          go_wp2_with (go_at_call 15; refine Stop.mk ?_)
          refine Stop.out (c15.mono ?_)
          rintro e W2 ⟨v2, rfl, ho2, hb2⟩
          obtain ⟨a2, cap2, rfl, _, _⟩ := own_rd64 ho2
          have HD2 : Hid (DP w W2 B P) := HD1.out.on hb2
          clear c15 ho2 hb2 HD1
          obtain ⟨N, hN⟩ : ∃ N, (relems G).length = N := ⟨_, rfl⟩
          rw [hN]
          have hN3 : rn G 0 = N := (rn_elems G).symm.trans hN
          rw [hN3] at HGT
          have hN2 : N ≤ 5242885 := by rw [← hN]; have := relems_len G; omega
          clear hN3
          by_cases h64 : 64 < N
          · have h64I : (64 : Int) < (N : Int) := by omega
            have hgt := HGT.out
            rw [if_pos h64] at hgt
            have hEE := HEE.out
            rw [hgt] at hEE
            dsimp only at hEE
            obtain ⟨g1, g2⟩ := Prod.mk.inj hEE
            obtain ⟨rfl, rfl⟩ := HRR.out.1 _ g1.symm
            have hpl : ((5 * ts.length : Nat) : Int) + ((0 : Nat) : Int) = 5 * (ts.length : Int) := by omega
            have HPL : Hid _ := hpl
            clear hgt hEE g1 g2 HEE HRR hpl HGT
            have c13 := no_any (5 * (ts.length : Int)) 103 W2
            go_wp2_with (go_at_call 13; refine Stop.mk ?_)
            refine Stop.out (c13.mono ?_)
            rintro e W9 ⟨v9, rfl, hv9, hb9⟩
            have HD9 := (HD2.out).on hb9
            have HV9 : Hid (RErr W9 v9 (some ((5 * (ts.length : Int)), 103))) := hv9
            obtain ⟨g9, k9, rfl, _, _⟩ := hv9
            have a0 : W9.cell? ⟨B + 1, 0, none⟩ = some (.slice none 0 0) := HD9.flt.cell (i := 0) (by omega)
            have a1 : W9.cell? ⟨B + 1, 1, none⟩ = some (.int .i64 0) := HD9.flt.cell (i := 1) (by omega)
            have af : ∀ i, W9.frozen? ⟨B + 1, i, none⟩ = false := fun i => HD9.flt.frozen i
            obtain ⟨p0, p1, p2⟩ := putF_all HD9.flt (.slice (some ⟨g9, 0, none⟩) 1 k9) (.int .i64 103) rfl
            have HDB : Hid _ := putF_below HD9.bel (Nat.le_succ _) (.slice (some ⟨g9, 0, none⟩) 1 k9) (.int .i64 103)
            have HDV : Hid (RErr _ _ _) := p2 HV9.out
            clear c13 hb9 HD9 HV9 p2
            unfold putF at *
            go_wp2
            refine bodyPost_ret (v := .tuple #[.string ⟨#[]⟩, .agg #[.slice (some ⟨g9, 0, none⟩) 1 k9, .int .i64 103]]) (by simp [results, Tryd.results7, go_sem, p0, p1]) rfl ⟨_, rfl, by first | exact HDV.out | (rw [HPL.out]; exact HDV.out), by first | exact HDB.out | (rw [hB]; exact HDB.out)⟩
          · have h64I : ¬ ((64 : Int) < (N : Int)) := by omega
            have hgt := HGT.out
            rw [if_neg h64] at hgt
            have hEE := HEE.out
            rw [hgt] at hEE
            dsimp only at hEE
            have HE2 : Hid (prn (ts ++ [G]).length (P.drop (ts ++ [G]).length) (ts ++ [G]) = (E, TS)) := by show _ = _; rw [List.length_append, List.length_singleton]; exact hEE
            have HTs2 : Hid (∀ x ∈ ts ++ [G], x.size ≤ 5242885) := fun x hx => by
              rcases List.mem_append.1 hx with hx | hx
              · exact HTs.out x hx
              · rw [List.mem_singleton] at hx; subst hx; exact hgs
            have HL5 : Hid ((ts ++ [G]).length = ts.length + 1) := by show _ = _; rw [List.length_append, List.length_singleton]
            have hds := dst_snoc ts G
            rw [← HS.out] at hds
            have hdz := dst_size _ (ts ++ [G]) rfl HTs2.out
            rw [hds, HL5.out] at hdz
            have hSM2 : S.size + M.size ≤ 15728658 := by omega
            clear hgt hEE HEE HGT HTs HS
            cases hem : G.toList.isEmpty with
            | true =>
              have hem2 : (G.toList == []) = true := by rw [List.isEmpty_iff] at hem; rw [hem]; rfl
              have hem3 : (G.toList != []) = false := by rw [bne, hem2]; rfl
              unfold stp at hds hdz
              rw [if_pos hem] at hds hdz
              dsimp only at hds hdz
              obtain ⟨M2, hM2⟩ : ∃ M2, M ++ (⟨#[61]⟩ : ByteArray) = M2 := ⟨_, rfl⟩
              rw [hM2] at hds hdz
              have HS2 : Hid ((S, M2) = dst (ts ++ [G])) := hds.symm
              clear hds
              go_wp2
              go_roundg (3 - (ts.length + 1))
              case measure => omega
              case rel => exact ⟨ts ++ [G], S, M2, rfl, by first | rfl | (rw [hM2]), by rw [HL5.out]; first | rfl | simp, by rw [HL5.out]; omega, by rw [HL5.out]; exact hdz, HS2, HE2, HTs2, HD2⟩
            | false =>
              have hem2 : (G.toList == []) = false := by
                rw [beq_eq_false_iff_ne]
                intro h
                rw [h] at hem
                cases hem
              have hem3 : (G.toList != []) = true := by rw [bne, hem2]; rfl
              unfold stp at hds hdz
              rw [if_neg (by rw [hem]; decide)] at hds hdz
              dsimp only at hds hdz
              obtain ⟨S1, hS1⟩ : ∃ S1, S ++ M = S1 := ⟨_, rfl⟩
              have hS1s : S1.size ≤ 15728658 := by rw [← hS1, ByteArray.size_append]; omega
              rw [hS1] at hds hdz
              obtain ⟨S2, hS2⟩ : ∃ S2, S1 ++ G = S2 := ⟨_, rfl⟩
              rw [hS2] at hds hdz
              have HS2 : Hid ((S2, ⟨#[61]⟩) = dst (ts ++ [G])) := hds.symm
              clear hds
              go_wp2
              go_roundg (3 - (ts.length + 1))
              case measure => omega
              case rel => exact ⟨ts ++ [G], S2, ⟨#[61]⟩, by first | rfl | (rw [hS2]), by first | rfl | simp, by rw [HL5.out]; first | rfl | simp, by rw [HL5.out]; omega, by rw [HL5.out]; exact hdz, HS2, HE2, HTs2, HD2⟩
    · have hl3 : ts.length = 3 := by omega
      have hltI : ¬ ((ts.length : Int) < 3) := by omega
      have hEE := HE.out
      rw [List.drop_eq_nil_of_le (by rw [HP3.out]; omega), prn] at hEE
      obtain ⟨h1, h2⟩ := Prod.mk.inj hEE
      obtain ⟨rfl, hR2⟩ := HRR.out.2 h1.symm
      have hSR : S = R2 := by
        rw [hR2, ← h2]
        obtain ⟨x0, x1, x2, rfl⟩ : ∃ x0 x1 x2, ts = [x0, x1, x2] := by
          match ts, hl3 with
          | [x0, x1, x2], _ => exact ⟨x0, x1, x2, rfl⟩
        rw [← dst_top, ← HS.out]
      subst hSR
      have c16 := none34_any wr
      clear h1 h2 hEE HE HRR hR2 HS HTs
      go_wp2_with (go_at_call 16; refine Stop.mk ?_)
      refine Stop.out (c16.mono ?_)
      rintro e W1 ⟨rfl, hb1⟩
      have HD1 := HD.out.on hb1
      have a0 : W1.cell? ⟨B + 1, 0, none⟩ = some (.slice none 0 0) := HD1.flt.cell (i := 0) (by omega)
      have a1 : W1.cell? ⟨B + 1, 1, none⟩ = some (.int .i64 0) := HD1.flt.cell (i := 1) (by omega)
      have af : ∀ i, W1.frozen? ⟨B + 1, i, none⟩ = false := fun i => HD1.flt.frozen i
      obtain ⟨p0, p1, p2⟩ := putF_all HD1.flt (.slice none 0 0) (.int .i64 0) rfl
      have HDB : Hid _ := putF_below HD1.bel (Nat.le_succ _) (.slice none 0 0) (.int .i64 0)
      clear c16 hb1 HD1 p2 HD
      unfold putF at *
      go_wp2
      refine bodyPost_ret (v := .tuple #[.string S, .agg #[.slice none 0 0, .int .i64 0]]) (by simp [results, Tryd.results7, go_sem, p0, p1]) rfl ⟨_, rfl, rfl, by first | exact HDB.out | (rw [hB]; exact HDB.out)⟩
end Go.Proofs.YtohojghndnfgdaaDoor
