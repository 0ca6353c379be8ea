import Derived.Test.YtoikdpjjcnmgeaaGreatDoorFc
import Derived.Test.YtoikdpjjcnmgeaaGreatDoorTT
import Derived.Test.YtoikdpjjcnmgeaaGreatDoorTH
import Derived.Test.YtoikdpjjcnmgeaaGreatDoorBa
import Derived.Deep.RegionLawGrows
import Derived.WideMake
section
/-
  DERIVED. The document's dictionary, asked for a tag.
-/
namespace Go.Proofs.YtoikdpjjcnmgeaaGreatDoor.Tb
open Go Go.Proofs Go.RowKit

structure StopF (p : Prop) : Prop where
  out : p
theorem fits_at : ∀ (ls : List (List Nat)) (rs : List Row) (k : Nat), fitsAll ls rs = true → k < ls.length → ∃ r, rs[k]? = some r ∧ fits (ls.getD k []) r = true
  | [], _, k, _, h => by simp at h
  | l :: ls, [], _, h, _ => by cases h
  | l :: ls, r :: rs, 0, h, _ => by
    rw [fitsAll, Bool.and_eq_true] at h
    exact ⟨r, rfl, h.1⟩
  | l :: ls, r :: rs, k + 1, h, hk => by
    rw [fitsAll, Bool.and_eq_true] at h
    obtain ⟨x, h1, h2⟩ := fits_at ls rs k h.2 (by simpa using hk)
    exact ⟨x, by simpa using h1, by simpa using h2⟩
theorem row_drop {k : Nat} {r : Row} (h : (upTo 10)[k]? = some r) : (upTo 10).drop k = r :: (upTo 10).drop (k + 1) := by
  obtain ⟨hk, hr⟩ := List.getElem?_eq_some_iff.1 h
  rw [List.drop_eq_getElem_cons hk, hr]
set_option maxRecDepth 100000 in
theorem at43 {K : Act → World → Prop} {Q : Exit → Act → World → Prop} {w : World} {u0 u1 u2 u3 u4 u5 u6 u7 u8 u9 u10 u12 u13 u14 u15 u16 u17 u18 u19 u20 u21 u22 u23 u24 u25 u26 u27 u28 u29 u30 u31 u32 u33 u34 : Value} (S : ByteArray) (n : Int) (ty : TypeId) (pos : String) (af : Array Edge) (ats : Array TypeId)
    (h : Calls Tryz.prog 42 #[.string S, .int .i64 n] w fun e w' => ∃ v, e = .returned v ∧ K { tmps := #[u0, u1, u2, u3, u4, u5, u6, u7, u8, u9, u10, .int .i64 n, v, u13, u14, u15, u16, u17, u18, u19, u20, u21, u22, u23, u24, u25, u26, u27, u28, u29, u30, u31, u32, u33, u34], defers := [] } w') :
    Oper.wp Tryz.prog { dst := some 12, op := Op.call { callee := Callee.value (Operand.func 42), args := #[Operand.const (Value.string S), Operand.tmp 11], argTypes := ats }, type := ty, pos := pos, after := af, guard := none } { tmps := #[u0, u1, u2, u3, u4, u5, u6, u7, u8, u9, u10, .int .i64 n, u12, u13, u14, u15, u16, u17, u18, u19, u20, u21, u22, u23, u24, u25, u26, u27, u28, u29, u30, u31, u32, u33, u34], defers := [] } w K Q := by
  go_wp2_with (go_at_call 42; refine h.mono ?_; rintro e w' ⟨v, rfl, hk⟩)
  exact hk
set_option maxRecDepth 100000 in
theorem at15 {K : Act → World → Prop} {Q : Exit → Act → World → Prop} {w : World} {u0 u1 u2 u3 u4 u5 u6 u7 u8 u9 u10 u11 u12 u15 u16 u17 u18 u19 u20 u21 u22 u23 u24 u25 u26 u27 u28 u29 u30 u31 u32 u33 u34 : Value} (S : ByteArray) (a b : Nat) (hab : a ≤ b) (hb : b ≤ S.size) (ty : TypeId) (pos : String) (af : Array Edge)
    (h : K { tmps := #[u0, u1, u2, u3, u4, u5, u6, u7, u8, u9, u10, u11, u12, .int .i64 (a : Int), .int .i64 (b : Int), .string (S.extract a b), u16, u17, u18, u19, u20, u21, u22, u23, u24, u25, u26, u27, u28, u29, u30, u31, u32, u33, u34], defers := [] } w) :
    Oper.wp Tryz.prog { dst := some 15, op := Op.slice 9 (Operand.const (Value.string S)) (some (Operand.tmp 13)) (some (Operand.tmp 14)) none, type := ty, pos := pos, after := af, guard := none } { tmps := #[u0, u1, u2, u3, u4, u5, u6, u7, u8, u9, u10, u11, u12, .int .i64 (a : Int), .int .i64 (b : Int), u15, u16, u17, u18, u19, u20, u21, u22, u23, u24, u25, u26, u27, u28, u29, u30, u31, u32, u33, u34], defers := [] } w K Q := by
  have h1 : (a : Int) ≤ (b : Int) := by omega
  have h2 : (b : Int) ≤ (S.size : Int) := by omega
  go_wp2
  exact h

set_option maxRecDepth 1000000 in
set_option maxHeartbeats 4000000 in
theorem rfind_any (w : World) (t : Nat) (ht : t < 4294967296) : Calls Tryz.prog 21 #[.int .u32 (t : Int)] w fun e w' =>
    e = .returned (.tuple #[.agg #[.int .u32 (eT (docF t (upTo 10))), .int .u32 (eM (docF t (upTo 10))), .int .i64 (eV (docF t (upTo 10))), .string (eS (docF t (upTo 10))), .int .i64 (eL (docF t (upTo 10))), .int .i64 (eN (docF t (upTo 10)))], .bool (docF t (upTo 10)).isSome]) ∧ Below w.heap.size w w' := by
  obtain ⟨O, hO⟩ : ∃ O, docF t (upTo 10) = O := ⟨_, rfl⟩
  rw [hO]
  have HO : Hid (docF t (upTo 10) = O) := hO
  have HT : Hid (t < 4294967296) := ht
  clear hO
  obtain ⟨V0, hV0⟩ : ∃ V0, w.alloc (.cells #[.int .u32 0, .int .u32 0, .int .i64 0, .string ⟨#[]⟩, .int .i64 0, .int .i64 0] 50) = V0 := ⟨_, rfl⟩
  have HE0 : Hid (E6 V0 w.heap.size ∧ Below w.heap.size w V0) := by
    rw [← hV0]
    exact ⟨⟨by simp, by simp, by simp, by simp, by simp, by simp, fun i => by simp⟩, (Below.refl _ _).alloc (Nat.le_refl _) _⟩
  go_enter Tryz.func21, Tryz.ntmps21
  go_wp2
  clear hV0
  go_loopw [4] (fun x wr => ∃ k : Nat, x = .int .i64 ((stt lns k : Nat) : Int) ∧ k ≤ 253 ∧ wr = V0 ∧ Hid (docF t ((upTo 10).drop k) = O)) (fun x _ => 10000 - (intOf x).toNat)
  case atStart => exact ⟨0, rfl, by omega, rfl, HO⟩
  case round =>
    obtain ⟨k, rfl, hk, rfl, HD⟩ := hrel
    by_cases hk2 : k < 253
    · have HSu : Hid (stt lns (k + 1) = stt lns k + (lns.getD k []).length + 1) := stt_succ lns k (by rw [lns_len]; exact hk2)
      have hle : stt lns k + (lns.getD k []).length + 1 ≤ 9128 := by
        rw [← HSu.out]
        have := stt_le lns (k + 1) (by rw [lns_len]; omega)
        rw [cat_length, lns_len, lns_end] at this
        exact this
      have c43 := fun S hS => end_line wr S hS k hk2
      have HTx : Hid (attrsB.extract (stt lns k) (stt lns k + (lns.getD k []).length) = lnB (lns.getD k [])) := line_text k hk2
      obtain ⟨r, hr, hfit⟩ := fits_at lns (upTo 10) k fits_all (by rw [lns_len]; exact hk2)
      have hec := fits_ec hfit
      obtain ⟨g1, g2, g3, g4⟩ := line_good k hk2
      have hfit2 := hfit
      unfold fits at hfit2
      simp only [Bool.and_eq_true, beq_iff_eq] at hfit2
      obtain ⟨⟨⟨⟨⟨f1, f2⟩, f3⟩, f4⟩, f5⟩, f6⟩ := hfit2
      have c44 : ∀ S, S = lnB (lns.getD k []) → Calls Tryz.prog 43 #[.string S] wr fun e w' => e = .returned (.tuple #[.int .u32 (r.t : Int), .int .u32 ((maskN r.t : Nat) : Int)]) ∧ wr = w' := by
        intro S hS
        have := tag_any wr (lnB (lns.getD k [])) g1 g2 g3
        rw [hS]
        rw [f1, f2] at this
        exact this
      have c45 : ∀ S, S = lnB (lns.getD k []) → Calls Tryz.prog 44 #[.string S] wr fun e w' => e = .returned (.agg #[.int .u32 (r.t : Int), .int .u32 ((maskN r.t : Nat) : Int), .int .i64 r.v, .string r.s, .int .i64 r.l, .int .i64 r.m]) ∧ Below wr.heap.size wr w' := by
        intro S hS
        have := entry_any wr (lnB (lns.getD k [])) g1 g2 g3 g4
        rw [hS]
        have he : entV (lnB (lns.getD k [])) = .agg (entC (lnB (lns.getD k []))).toArray := rfl
        rw [he, hec] at this
        exact this
      have HHA : Hid (docF t ((upTo 10).drop k) = if hit t r then some r else if t < r.t then none else docF t ((upTo 10).drop (k + 1))) := by
        show _ = _
        rw [row_drop hr, docF]
      have HAND : Hid ((bits .and .u32 (t : Int) ((maskN r.t : Nat) : Int) == (r.t : Int)) = hit t r) := hit_and HT.out
      have hsz : (attrsB.size : Int) = 9128 := by rw [attrs_size]; rfl
      clear g1 g2 g3 g4 hfit hec f1 f2 f3 f4 f5 f6 hr
      generalize lnB (lns.getD k []) = S at HTx c44 c45
      generalize (lns.getD k []).length = m at HSu hle c43 HTx
      generalize stt lns k = a at HSu hle c43 HTx ⊢
      go_wp2
      refine at43 _ _ _ _ _ _ ((c43 _ (by kernel_rfl)).mono ?_)
      rintro e w' ⟨rfl, rfl⟩
      refine ⟨_, rfl, ?_⟩
      go_wp2
      refine at15 _ a (a + m) (by omega) (Nat.le_trans (by omega) (Nat.le_of_eq attrs_size.symm)) _ _ _ ?_
      rw [HTx.out]
      clear c43
      obtain ⟨hv, hhv⟩ : ∃ hv, hit t r = hv := ⟨_, rfl⟩
      have hh2 : ((r.t : Int) == bits .and .u32 (t : Int) ((maskN r.t : Nat) : Int)) = hv := by rw [Bool.beq_comm]; exact HAND.out.trans hhv
      have HHV : Hid (hit t r = hv) := hhv
      clear hhv HAND
      have c44' := c44 S rfl
      have c45' := c45 S rfl
      clear c44 c45
      go_wp2_with (go_at_call 43; refine StopF.out ?_)
      refine ⟨Calls.mono c44' ?_⟩
      rintro e W ⟨rfl, rfl⟩
      clear c44'
      cases hv with
      | true =>
        have HF : Hid (O = some r) := by
          show O = some r
          rw [← HD.out, HHA.out, if_pos HHV.out]
        obtain ⟨z0, z1, z2, z3, z4, z5, zf⟩ := HE0.out.1
        go_wp2_with (go_at_call 44; refine StopF.out ?_)
        refine ⟨Calls.mono c45' ?_⟩
        rintro e W2 ⟨rfl, hb2⟩
        have HE2 : Hid (E6 W2 w.heap.size) := HE0.out.1.next hb2
        have HB2 : Hid (Below w.heap.size w W2) := HE0.out.2.trans (hb2.mono HE0.out.2.size)
        obtain ⟨y0, y1, y2, y3, y4, y5, yf⟩ := HE2.out
        clear hb2 c45' z0 z1 z2 z3 z4 z5 zf
        go_wp2
        have hU := HE2.out.sets (.int .u32 (r.t : Int)) (.int .u32 ((maskN r.t : Nat) : Int)) (.int .i64 r.v) (.string r.s) (.int .i64 r.l) (.int .i64 r.m)
        simp only at hU
        obtain ⟨u0, u1, u2, u3, u4, u5⟩ := hU
        rw [HF.out]
        exact bodyPost_ret (v := .tuple #[.agg #[.int .u32 (r.t : Int), .int .u32 ((maskN r.t : Nat) : Int), .int .i64 r.v, .string r.s, .int .i64 r.l, .int .i64 r.m], .bool true]) (by simp only [results, Tryz.results21]; simp [go_sem, u0, u1, u2, u3, u4, u5]) rfl ⟨rfl, (((((HB2.out.setCell (p := ⟨w.heap.size, 0, none⟩) (Nat.le_refl _) _).setCell (p := ⟨w.heap.size, 1, none⟩) (Nat.le_refl _) _).setCell (p := ⟨w.heap.size, 2, none⟩) (Nat.le_refl _) _).setCell (p := ⟨w.heap.size, 3, none⟩) (Nat.le_refl _) _).setCell (p := ⟨w.heap.size, 4, none⟩) (Nat.le_refl _) _).setCell (p := ⟨w.heap.size, 5, none⟩) (Nat.le_refl _) _⟩
      | false =>
        by_cases hlt : t < r.t
        · have HF : Hid (O = none) := by
            show O = none
            rw [← HD.out, HHA.out, if_neg (by rw [HHV.out]; decide), if_pos hlt]
          have hltI : decide ((t : Int) < (r.t : Int)) = true := by simp; omega
          obtain ⟨z0, z1, z2, z3, z4, z5, zf⟩ := HE0.out.1
          go_wp2
          have hU := HE0.out.1.sets (.int .u32 0) (.int .u32 0) (.int .i64 0) (.string ⟨#[]⟩) (.int .i64 0) (.int .i64 0)
          simp only at hU
          obtain ⟨u0, u1, u2, u3, u4, u5⟩ := hU
          rw [HF.out]
          exact bodyPost_ret (v := .tuple #[.agg #[.int .u32 0, .int .u32 0, .int .i64 0, .string ⟨#[]⟩, .int .i64 0, .int .i64 0], .bool false]) (by simp only [results, Tryz.results21]; simp [go_sem, u0, u1, u2, u3, u4, u5]) rfl ⟨rfl, (((((HE0.out.2.setCell (p := ⟨w.heap.size, 0, none⟩) (Nat.le_refl _) _).setCell (p := ⟨w.heap.size, 1, none⟩) (Nat.le_refl _) _).setCell (p := ⟨w.heap.size, 2, none⟩) (Nat.le_refl _) _).setCell (p := ⟨w.heap.size, 3, none⟩) (Nat.le_refl _) _).setCell (p := ⟨w.heap.size, 4, none⟩) (Nat.le_refl _) _).setCell (p := ⟨w.heap.size, 5, none⟩) (Nat.le_refl _) _⟩
        · have HN : Hid (docF t ((upTo 10).drop (k + 1)) = O) := by
            show _ = _
            rw [← HD.out, HHA.out, if_neg (by rw [HHV.out]; decide), if_neg hlt]
          have hltI : decide ((t : Int) < (r.t : Int)) = false := by simp; omega
          clear c45'
          go_wp2
          exact ⟨⟨k + 1, by rw [HSu.out]; simp, by omega, trivial, HN⟩, by simp [intOf]; omega⟩
    · obtain rfl : k = 253 := by omega
      have hst : stt lns 253 = 9128 := lns_end
      rw [hst]
      clear hst
      have HF : Hid (O = none) := by
        show O = none
        rw [← HD.out, List.drop_eq_nil_of_le (by rw [up_len]; exact Nat.le_refl _)]
        rfl
      obtain ⟨z0, z1, z2, z3, z4, z5, zf⟩ := HE0.out.1
      go_wp2
      have hU := HE0.out.1.sets (.int .u32 0) (.int .u32 0) (.int .i64 0) (.string ⟨#[]⟩) (.int .i64 0) (.int .i64 0)
      simp only at hU
      obtain ⟨u0, u1, u2, u3, u4, u5⟩ := hU
      rw [HF.out]
      exact bodyPost_ret (v := .tuple #[.agg #[.int .u32 0, .int .u32 0, .int .i64 0, .string ⟨#[]⟩, .int .i64 0, .int .i64 0], .bool false]) (by simp only [results, Tryz.results21]; simp [go_sem, u0, u1, u2, u3, u4, u5]) rfl ⟨rfl, (((((HE0.out.2.setCell (p := ⟨w.heap.size, 0, none⟩) (Nat.le_refl _) _).setCell (p := ⟨w.heap.size, 1, none⟩) (Nat.le_refl _) _).setCell (p := ⟨w.heap.size, 2, none⟩) (Nat.le_refl _) _).setCell (p := ⟨w.heap.size, 3, none⟩) (Nat.le_refl _) _).setCell (p := ⟨w.heap.size, 4, none⟩) (Nat.le_refl _) _).setCell (p := ⟨w.heap.size, 5, none⟩) (Nat.le_refl _) _⟩
end Go.Proofs.YtoikdpjjcnmgeaaGreatDoor.Tb
end

section
/-
  DERIVED. The VR that a tag has where none is said, by the document.
-/
namespace Go.Proofs.YtoikdpjjcnmgeaaGreatDoor
open Go Go.Proofs Go.RowKit
open Wk (Nd)

set_option maxRecDepth 100000 in
set_option maxHeartbeats 2000000 in
theorem rdefault_any (w : World) (t : Nat) (ht : t < 4294967296) : Calls Tryz.prog 106 #[.int .u32 (t : Int)] w fun e w' => e = .returned (.int .i64 (dflt t)) ∧ Below w.heap.size w w' := by
  have c21 := Tb.rfind_any w t ht
  obtain ⟨R, hR⟩ : ∃ R, dflt t = R := ⟨_, rfl⟩
  rw [hR]
  unfold dflt at hR
  generalize Tb.docF t (Tb.upTo 10) = O at c21 hR
  generalize Tb.eT O = e0 at c21
  generalize Tb.eM O = e1 at c21
  generalize Tb.eV O = e2 at c21 hR
  generalize Tb.eS O = e3 at c21
  generalize Tb.eL O = e4 at c21
  generalize Tb.eN O = e5 at c21
  generalize O.isSome = kn at c21 hR
  have HR : Hid _ := hR
  clear hR
  have hA : bits .and .u32 (t : Int) 65535 = ((t % 65536 : Nat) : Int) := by
    have := u32_and_nat t 65535 ht (by decide)
    rw [show ((65535 : Nat) : Int) = 65535 from rfl] at this
    rw [this, show (65535 : Nat) = 2 ^ 16 - 1 from rfl, Nat.and_two_pow_sub_one_eq_mod]
  have hB : bits .and .u32 ((t : Int) / 65536) 1 = ((t / 65536 % 2 : Nat) : Int) := by
    have := u32_and_nat (t / 65536) 1 (by omega) (by decide)
    rw [show ((1 : Nat) : Int) = 1 from rfl, show (((t / 65536 : Nat)) : Int) = (t : Int) / 65536 by omega] at this
    rw [this, show (1 : Nat) = 2 ^ 1 - 1 from rfl, Nat.and_two_pow_sub_one_eq_mod]
  have HA : Hid _ := hA
  have HB : Hid _ := hB
  clear hA hB
  by_cases h1 : t = 4294893568
  · have HR2 : Hid (R = 29) := by show R = _; rw [← HR.out, if_pos h1]
    have b1 : ((t : Int) == 4294893568) = true := beq_iff_eq.2 (by omega)
    clear HR h1
    go_enter Tryz.func106, Tryz.ntmps106
    go_wp2
    go_ret
    exact ⟨by rw [HR2.out]; rfl, Below.refl _ _⟩
  have b1 : ((t : Int) == 4294893568) = false := beq_eq_false_iff_ne.2 (by omega)
  have HR1 : Hid _ := (if_neg h1).symm.trans HR.out
  clear HR h1
  by_cases h2 : t / 65536 = 65534
  · have HR2 : Hid (R = 0) := by show R = _; rw [← HR1.out, if_pos h2]
    have b2 : ((t : Int) / 65536 == 65534) = true := beq_iff_eq.2 (by omega)
    clear HR1 h2
    go_enter Tryz.func106, Tryz.ntmps106
    go_wp2
    go_ret
    exact ⟨by rw [HR2.out]; rfl, Below.refl _ _⟩
  have b2 : ((t : Int) / 65536 == 65534) = false := beq_eq_false_iff_ne.2 (by omega)
  have HR2 : Hid _ := (if_neg h2).symm.trans HR1.out
  clear HR1 h2
  by_cases h3 : t % 65536 = 0
  · have HR3 : Hid (R = 24) := by show R = _; rw [← HR2.out, if_pos h3]
    have b3 : (bits .and .u32 (t : Int) 65535 == 0) = true := by rw [HA.out, h3]; rfl
    clear HR2 h3
    go_enter Tryz.func106, Tryz.ntmps106
    go_wp2
    go_ret
    exact ⟨by rw [HR3.out]; rfl, Below.refl _ _⟩
  have HR3 : Hid _ := (if_neg h3).symm.trans HR2.out
  have b3 : (bits .and .u32 (t : Int) 65535 == 0) = false := by rw [HA.out]; exact beq_eq_false_iff_ne.2 (by omega)
  clear HR2 h3
  cases kn with
  | true =>
    have HR4 : Hid (R = e2) := by show R = _; rw [← HR3.out, if_pos rfl]
    go_enter Tryz.func106, Tryz.ntmps106
    go_wp2_with (first | (go_at_call 21; refine c21.mono ?_; rintro e W2 ⟨rfl, hb2⟩) | fail)
    go_ret
    exact ⟨by rw [HR4.out]; rfl, hb2.alloc hb2.size _⟩
  | false =>
    by_cases hc1 : t / 65536 % 2 = 1
    · have d1 : (bits .and .u32 ((t : Int) / 65536) 1 == 1) = true := by rw [HB.out, hc1]; rfl
      by_cases hc2 : 16 ≤ t % 65536
      · have d2 : decide ((16 : Int) ≤ bits .and .u32 (t : Int) 65535) = true := by rw [HA.out]; simp; omega
        by_cases hc3 : t % 65536 ≤ 255
        · have d3 : decide (bits .and .u32 (t : Int) 65535 ≤ 255) = true := by rw [HA.out]; simp; omega
          have HR4 : Hid (R = 11) := by show R = _; rw [← HR3.out, if_neg (by decide), if_pos ⟨hc1, hc2, hc3⟩]
          clear hc1 hc2 hc3
          go_enter Tryz.func106, Tryz.ntmps106
          go_wp2_with (first | (go_at_call 21; refine c21.mono ?_; rintro e W2 ⟨rfl, hb2⟩) | fail)
          go_ret
          exact ⟨by rw [HR4.out]; rfl, hb2.alloc hb2.size _⟩
        · have d3 : decide (bits .and .u32 (t : Int) 65535 ≤ 255) = false := by rw [HA.out]; simp; omega
          have HR4 : Hid (R = 25) := by show R = _; rw [← HR3.out, if_neg (by decide), if_neg (fun h => hc3 h.2.2)]
          clear hc1 hc2 hc3
          go_enter Tryz.func106, Tryz.ntmps106
          go_wp2_with (first | (go_at_call 21; refine c21.mono ?_; rintro e W2 ⟨rfl, hb2⟩) | fail)
          go_ret
          exact ⟨by rw [HR4.out]; rfl, hb2.alloc hb2.size _⟩
      · have d2 : decide ((16 : Int) ≤ bits .and .u32 (t : Int) 65535) = false := by rw [HA.out]; simp; omega
        have HR4 : Hid (R = 25) := by show R = _; rw [← HR3.out, if_neg (by decide), if_neg (fun h => hc2 h.2.1)]
        clear hc1 hc2
        go_enter Tryz.func106, Tryz.ntmps106
        go_wp2_with (first | (go_at_call 21; refine c21.mono ?_; rintro e W2 ⟨rfl, hb2⟩) | fail)
        go_ret
        exact ⟨by rw [HR4.out]; rfl, hb2.alloc hb2.size _⟩
    · have d1 : (bits .and .u32 ((t : Int) / 65536) 1 == 1) = false := by rw [HB.out]; exact beq_eq_false_iff_ne.2 (by omega)
      have HR4 : Hid (R = 25) := by show R = _; rw [← HR3.out, if_neg (by decide), if_neg (fun h => hc1 h.1)]
      clear hc1
      go_enter Tryz.func106, Tryz.ntmps106
      go_wp2_with (first | (go_at_call 21; refine c21.mono ?_; rintro e W2 ⟨rfl, hb2⟩) | fail)
      go_ret
      exact ⟨by rw [HR4.out]; rfl, hb2.alloc hb2.size _⟩
end Go.Proofs.YtoikdpjjcnmgeaaGreatDoor
end

section
/-
  DERIVED. Errors and the document's faults, held against each other.
-/
namespace Go.Proofs.YtoikdpjjcnmgeaaGreatDoor.Rp
open Go Go.Proofs Go.RowKit

theorem owns_succ {W : World} {base : Nat} {e : TypeId} {size : Nat} {v : Value} {k : Nat} {xs : List Value} (h : W.ownsRow base e size v (k + 1) xs) : ∃ g cap, v = .slice (some ⟨g, 0, none⟩) (k + 1) cap := by
  rcases h.2 with ⟨_, h0⟩ | ⟨g, cap, cur, rfl, _⟩
  · omega
  · exact ⟨g, cap, rfl⟩


set_option maxHeartbeats 400000 in
theorem told_nil (w : World) : Calls Tryz.prog 39 #[.nilIface] w fun e w' => e = .returned (.tuple #[.agg #[.slice none 0 0, .int .i64 0], .bool true]) ∧ Below w.heap.size w w' := by
  go_enter Tryz.func39, Tryz.ntmps39
  go_wp2
  refine wp_loop_rounds 1 ?_
  rw [rounds_succ]
  go_wp2
  go_region
  go_wp2
  exact bodyPost_ret (v := .tuple #[.agg #[.slice none 0 0, .int .i64 0], .bool true]) (by simp [results, Tryz.results39, go_sem]) rfl ⟨rfl, (((Below.refl _ _).alloc (Nat.le_refl _) _).alloc (by simp) _).drew⟩

theorem cell_two_at {w : World} {x0 x1 : Value} {t : TypeId} {B : Nat} (h : B = w.heap.size) : ∀ j u, [x0, x1][j]? = some u → (w.alloc (.cells #[x0, x1] t)).cell? ((⟨B, 0, none⟩ : Addr).add j) = some u := by
  subst h
  intro j u hj
  match j, hj with
  | 0, hj => simp at hj; subst hj; simp [Addr.add]
  | 1, hj => simp at hj; subst hj; simp [Addr.add]
  | n + 2, hj => simp at hj

theorem infoLink : (Tryz.prog.info? 102).map (fun i => (i.zero, i.size, i.bytes)) = some (some (.agg #[.string { data := #[] }, .int .i64 0]), 2, 24) := by kernel_rfl

set_option maxRecDepth 100000 in
set_option maxHeartbeats 2000000 in
theorem told_one (c0 : Int) (hc0 : (c0 != 0) = true) (q : Nat) (at' : Int) (w : World) (h0 : w.cell? ⟨q, 0, none⟩ = some (.string { data := #[100, 105, 99, 116] })) (h1 : w.cell? ⟨q, 1, none⟩ = some (.int .i64 at')) (h2 : w.cell? ⟨q, 2, none⟩ = some (.iface 69 (.int .i64 c0))) :
    Calls Tryz.prog 39 #[.iface 70 (.pointer (some ⟨q, 0, none⟩))] w fun e w' => ∃ g cap, e = .returned (.tuple #[.agg #[.slice (some ⟨g, 0, none⟩) 1 cap, .int .i64 c0], .bool true]) ∧ Below w.heap.size w w' ∧ w'.cell? ⟨g, 0, none⟩ = some (.string { data := #[100, 105, 99, 116] }) ∧ w'.cell? ⟨g, 1, none⟩ = some (.int .i64 at') ∧ w.heap.size ≤ g := by
  have ta : ∀ (w : World) (v : Value), (Instr.typeAssert (.iface 70 v) 27 70 true).run Tryz.prog w = .ok (.tuple #[v, .bool true]) w := fun _ _ => by kernel_rfl
  have tb : ∀ (w : World) (v : Value), (Instr.typeAssert (.iface 69 v) 27 70 true).run Tryz.prog w = .ok (.tuple #[.pointer none, .bool false]) w := fun _ _ => by kernel_rfl
  have tc : ∀ (w : World) (v : Value), (Instr.typeAssert (.iface 69 v) 27 69 true).run Tryz.prog w = .ok (.tuple #[v, .bool true]) w := fun _ _ => by kernel_rfl
  obtain ⟨i0, hi, hz0, hz1, hz2⟩ := info_parts infoLink
  go_enter Tryz.func39, Tryz.ntmps39
  go_wp2
  refine wp_loop_rounds 2 ?_
  rw [rounds_succ]
  go_wp2
  obtain ⟨W1, hW1⟩ : ∃ W1, (w.alloc (.cells #[.slice none 0 0, .int .i64 0] 32)).alloc (.cells #[.slice none 0 0, .int .i64 0] 32) = W1 := ⟨_, rfl⟩
  have hb1 : Below w.heap.size w W1 := hW1 ▸ ((Below.refl _ _).alloc (Nat.le_refl _) _).alloc (by simp) _
  have HS : Hid (W1.heap.size = w.heap.size + 2) := by rw [← hW1]; show _ = _; simp
  have hq := cell_lt h0
  have g0 := (hb1.cell (p := ⟨q, 0, none⟩) hq).trans h0
  have g1 := (hb1.cell (p := ⟨q, 1, none⟩) hq).trans h1
  have g2 := (hb1.cell (p := ⟨q, 2, none⟩) hq).trans h2
  have a0 : W1.cell? ⟨w.heap.size + 1, 0, none⟩ = some (.slice none 0 0) := by rw [← hW1]; simp
  have a1 : W1.cell? ⟨w.heap.size + 1, 1, none⟩ = some (.int .i64 0) := by rw [← hW1]; simp
  have af : ∀ i, W1.frozen? ⟨w.heap.size + 1, i, none⟩ = false := fun i => by rw [← hW1]; simp
  have r0 : W1.cell? ⟨w.heap.size, 0, none⟩ = some (.slice none 0 0) := by rw [← hW1]; simp
  have r1 : W1.cell? ⟨w.heap.size, 1, none⟩ = some (.int .i64 0) := by rw [← hW1]; simp
  have rf : ∀ i, W1.frozen? ⟨w.heap.size, i, none⟩ = false := fun i => by rw [← hW1]; simp
  clear h0 h1 h2
  rw [hW1]
  clear hW1
  have hlt1 : w.heap.size + 1 < W1.heap.size := by rw [HS.out]; omega
  have hq1 : q < W1.heap.size := by rw [HS.out]; have := hq; simp at this; omega
  go_region_law (go_loud (refine step_append_grows rfl (.tmp 30) (.tmp 40) 30 rfl 102 i0 _ 2 24 Tryz.underlying30 hi hz0 hz1 hz2 rfl (by decide) none 0 0 [] (by simp [Act.eval]) (by simp) rfl (by simp) ⟨W1.heap.size, 0, none⟩ 1 1 [.string { data := #[100, 105, 99, 116] }, .int .i64 at'] (by simp [Act.eval]) rfl (by exact cell_two_at (by simp)) (by simp [Value.oneCell']) (by decide) (by decide) (by decide) ?_); intro v4 W4 hown4 hgrow4; have hb4 : Below W1.heap.size W1 W4 := ⟨hgrow4.os, hgrow4.tape, hgrow4.output, Nat.le_trans (by simp) hgrow4.size, fun k hk => (hgrow4.block k (by simp; omega) (by simp)).trans (Below.heap_alloc W1 _ k hk)⟩; have z0 := (hb4.cell (p := ⟨w.heap.size + 1, 0, none⟩) (by rw [HS.out]; simp)).trans a0; have zf := fun j => (hb4.frozen (p := ⟨w.heap.size + 1, j, none⟩) (by rw [HS.out]; simp)).trans (af j); have hex := owns_succ hown4; obtain ⟨g4, cap4, rfl⟩ := hex)
  all_goals
    have y2 := (hb4.cell (p := ⟨q, 2, none⟩) hq1).trans g2
    have y1 := (hb4.cell (p := ⟨w.heap.size + 1, 1, none⟩) hlt1).trans a1
    have hlt2 : w.heap.size < W1.heap.size := by omega
    have x0 := (hb4.cell (p := ⟨w.heap.size, 0, none⟩) hlt2).trans r0
    have x1 := (hb4.cell (p := ⟨w.heap.size, 1, none⟩) hlt2).trans r1
    have xf := fun j => (hb4.frozen (p := ⟨w.heap.size, j, none⟩) hlt2).trans (rf j)
    have HO : Hid (W4.ownsRow _ _ _ _ _ _) := hown4
    have HB4 : Hid (Below W1.heap.size W1 W4) := hb4
    clear hown4 hgrow4 hb4 g0 g1 g2 a0 a1 af r0 r1 rf
    go_wp2
    rw [rounds_succ]
    go_wp2
    have hge : W1.heap.size ≤ g4 := by
      rcases HO.out.2 with ⟨h, _⟩ | ⟨g, c, cur, hv, hbase, _⟩
      · cases h
      · simp only [Value.slice.injEq, Option.some.injEq, Addr.mk.injEq] at hv
        have hle : W1.heap.size ≤ g := Nat.le_trans (by simp) hbase
        omega
    have q0 : W4.cell? ⟨g4, 0, none⟩ = some (.string { data := #[100, 105, 99, 116] }) := HO.out.cellAt 0 (by decide)
    have q1 : W4.cell? ⟨g4, 1, none⟩ = some (.int .i64 at') := HO.out.cellAt 1 (by decide)
    obtain ⟨U, hU⟩ : ∃ U, (W4.setCell ⟨w.heap.size + 1, 0, none⟩ (.slice (some ⟨g4, 0, none⟩) 1 cap4)).setCell ⟨w.heap.size + 1, 1, none⟩ (.int .i64 c0) = U := ⟨_, rfl⟩
    have u0 : U.cell? ⟨w.heap.size + 1, 0, none⟩ = some (.slice (some ⟨g4, 0, none⟩) 1 cap4) := by rw [← hU]; exact (cell_set_ne (by omega)).trans (cell_set_eq z0)
    have u1 : U.cell? ⟨w.heap.size + 1, 1, none⟩ = some (.int .i64 c0) := by rw [← hU]; exact cell_set_eq ((cell_set_ne (by omega)).trans y1)
    have v0 : U.cell? ⟨w.heap.size, 0, none⟩ = some (.slice none 0 0) := by rw [← hU]; exact (cell_set_off (by omega)).trans ((cell_set_off (by omega)).trans x0)
    have v1 : U.cell? ⟨w.heap.size, 1, none⟩ = some (.int .i64 0) := by rw [← hU]; exact (cell_set_off (by omega)).trans ((cell_set_off (by omega)).trans x1)
    have vf : ∀ j, U.frozen? ⟨w.heap.size, j, none⟩ = false := fun j => by rw [← hU, World.frozen?_setCell, World.frozen?_setCell]; exact xf j
    have HG0 : Hid (U.cell? ⟨g4, 0, none⟩ = some (.string { data := #[100, 105, 99, 116] })) := by rw [← hU]; exact (cell_set_off (by omega)).trans ((cell_set_off (by omega)).trans q0)
    have HG1 : Hid (U.cell? ⟨g4, 1, none⟩ = some (.int .i64 at')) := by rw [← hU]; exact (cell_set_off (by omega)).trans ((cell_set_off (by omega)).trans q1)
    have HBU : Hid (Below w.heap.size w U) := by rw [← hU]; exact ((hb1.trans (HB4.out.mono (by omega))).setCell (p := ⟨w.heap.size + 1, 0, none⟩) (by simp) _).setCell (p := ⟨w.heap.size + 1, 1, none⟩) (by simp) _
    rw [hU]
    clear hU z0 zf y1 y2 x0 x1 xf q0 q1 ta tb tc
    go_region
    all_goals
      go_wp2
      refine bodyPost_ret (v := .tuple #[.agg #[.slice (some ⟨g4, 0, none⟩) 1 cap4, .int .i64 c0], .bool true]) (by simp [results, Tryz.results39, go_sem, v0, v1]) rfl ?_
      exact ⟨g4, cap4, rfl, ((HBU.out.setCell (p := ⟨w.heap.size, 0, none⟩) (Nat.le_refl _) _).setCell (p := ⟨w.heap.size, 1, none⟩) (Nat.le_refl _) _).drew, (cell_set_off (by omega)).trans ((cell_set_off (by omega)).trans HG0.out), (cell_set_off (by omega)).trans ((cell_set_off (by omega)).trans HG1.out), by omega⟩



set_option maxHeartbeats 400000 in
theorem new0_any (c at' : Int) (w : World) : Calls Tryz.prog 36 #[.string { data := #[100, 105, 99, 116] }, .int .i64 at', .int .i64 c] w fun e w' => e = .returned (.agg #[.slice (some ⟨w.heap.size + 1, 0, none⟩) 1 1, .int .i64 c]) ∧ Below w.heap.size w w' ∧ w'.cell? ⟨w.heap.size + 1, 0, none⟩ = some (.string { data := #[100, 105, 99, 116] }) ∧ w'.cell? ⟨w.heap.size + 1, 1, none⟩ = some (.int .i64 at') ∧ w.heap.size + 1 < w'.heap.size := by
  go_enter Tryz.func36, Tryz.ntmps36
  go_wp2
  refine bodyPost_ret (v := .agg #[.slice (some ⟨w.heap.size + 1, 0, none⟩) 1 1, .int .i64 c]) (by simp [results, Tryz.results36, go_sem]) rfl ⟨rfl, ((Below.refl _ _).alloc (Nat.le_refl _) _).alloc (by simp) _, by simp, by simp, by simp⟩


set_option maxRecDepth 100000 in
set_option maxHeartbeats 800000 in
theorem same_none (w : World) : Calls Tryz.prog 40 #[.agg #[.slice none 0 0, .int .i64 0], .agg #[.slice none 0 0, .int .i64 0]] w fun e w' => e = .returned (.bool true) ∧ Below w.heap.size w w' := by
  go_enter Tryz.func40, Tryz.ntmps40
  go_wp2
  refine wp_loop_rounds 1 ?_
  rw [rounds_succ]
  go_wp2
  go_ret
  exact ⟨rfl, ((Below.refl _ _).alloc (Nat.le_refl _) _).alloc (by simp) _⟩

set_option maxRecDepth 100000 in
set_option maxHeartbeats 800000 in
theorem same_one (g h cg ch : Nat) (c at' : Int) (w : World) (g0 : w.cell? ⟨g, 0, none⟩ = some (.string { data := #[100, 105, 99, 116] })) (g1 : w.cell? ⟨g, 1, none⟩ = some (.int .i64 at')) (h0 : w.cell? ⟨h, 0, none⟩ = some (.string { data := #[100, 105, 99, 116] })) (h1 : w.cell? ⟨h, 1, none⟩ = some (.int .i64 at')) (hg : g < w.heap.size) (hh : h < w.heap.size) :
    Calls Tryz.prog 40 #[.agg #[.slice (some ⟨g, 0, none⟩) 1 cg, .int .i64 c], .agg #[.slice (some ⟨h, 0, none⟩) 1 ch, .int .i64 c]] w fun e w' => e = .returned (.bool true) ∧ Below w.heap.size w w' := by
  go_enter Tryz.func40, Tryz.ntmps40
  go_wp2
  refine wp_loop_rounds 2 ?_
  rw [rounds_succ]
  go_wp2
  go_quiet (fail)
  go_wp2
  rw [rounds_succ]
  go_wp2
  go_ret
  exact ⟨rfl, below_drewN (((Below.refl _ _).alloc (Nat.le_refl _) _).alloc (by simp) _) _⟩



set_option maxHeartbeats 400000 in
theorem is_nil (w : World) : Calls Tryz.prog 12 #[.nilIface, .agg #[.slice none 0 0, .int .i64 0]] w fun e w' => e = .returned (.bool true) ∧ Below w.heap.size w w' := by
  obtain ⟨W1, hW1⟩ : ∃ W1, w.alloc (.cells #[.slice none 0 0, .int .i64 0] 32) = W1 := ⟨_, rfl⟩
  have hb1 : Below w.heap.size w W1 := hW1 ▸ (Below.refl _ _).alloc (Nat.le_refl _) _
  have hs1 : w.heap.size < W1.heap.size := by rw [← hW1]; simp
  have a0 : W1.cell? ⟨w.heap.size, 0, none⟩ = some (.slice none 0 0) := by rw [← hW1]; simp
  have a1 : W1.cell? ⟨w.heap.size, 1, none⟩ = some (.int .i64 0) := by rw [← hW1]; simp
  go_enter Tryz.func12, Tryz.ntmps12
  go_wp2_with (first | (go_at_call 39; refine (told_nil _).mono ?_; rintro e W2 ⟨rfl, hb2⟩; have b0 := (hb2.cell (p := ⟨w.heap.size, 0, none⟩) hs1).trans a0; have b1 := (hb2.cell (p := ⟨w.heap.size, 1, none⟩) hs1).trans a1; have hs2 : w.heap.size < W2.heap.size := Nat.lt_of_lt_of_le hs1 hb2.size) | (go_at_call 40; refine (same_none _).mono ?_; rintro e W3 ⟨rfl, hb3⟩))
  go_ret
  exact ⟨rfl, ((hb1.trans (hb2.mono hb1.size)).alloc (by omega) _).trans (hb3.mono (by simp; omega))⟩

set_option maxHeartbeats 800000 in
theorem is_one (c0 : Int) (hc0 : (c0 != 0) = true) (q g cg : Nat) (at' : Int) (w : World) (h0 : w.cell? ⟨q, 0, none⟩ = some (.string { data := #[100, 105, 99, 116] })) (h1 : w.cell? ⟨q, 1, none⟩ = some (.int .i64 at')) (h2 : w.cell? ⟨q, 2, none⟩ = some (.iface 69 (.int .i64 c0)))
    (g0 : w.cell? ⟨g, 0, none⟩ = some (.string { data := #[100, 105, 99, 116] })) (g1 : w.cell? ⟨g, 1, none⟩ = some (.int .i64 at')) :
    Calls Tryz.prog 12 #[.iface 70 (.pointer (some ⟨q, 0, none⟩)), .agg #[.slice (some ⟨g, 0, none⟩) 1 cg, .int .i64 c0]] w fun e w' => e = .returned (.bool true) ∧ Below w.heap.size w w' := by
  have hq := cell_lt h0
  have hg := cell_lt g0
  obtain ⟨W1, hW1⟩ : ∃ W1, w.alloc (.cells #[.slice (some ⟨g, 0, none⟩) 1 cg, .int .i64 c0] 32) = W1 := ⟨_, rfl⟩
  have hb1 : Below w.heap.size w W1 := hW1 ▸ (Below.refl _ _).alloc (Nat.le_refl _) _
  have hs1 : w.heap.size < W1.heap.size := by rw [← hW1]; simp
  have a0 : W1.cell? ⟨w.heap.size, 0, none⟩ = some (.slice (some ⟨g, 0, none⟩) 1 cg) := by rw [← hW1]; simp
  have a1 : W1.cell? ⟨w.heap.size, 1, none⟩ = some (.int .i64 c0) := by rw [← hW1]; simp
  have ht := told_one c0 hc0 q at' W1 ((hb1.cell (p := ⟨q, 0, none⟩) hq).trans h0) ((hb1.cell (p := ⟨q, 1, none⟩) hq).trans h1) ((hb1.cell (p := ⟨q, 2, none⟩) hq).trans h2)
  have f0 := (hb1.cell (p := ⟨g, 0, none⟩) hg).trans g0
  have f1 := (hb1.cell (p := ⟨g, 1, none⟩) hg).trans g1
  have hgw : g < W1.heap.size := Nat.lt_of_lt_of_le hg hb1.size
  clear h0 h1 h2 g0 g1
  go_enter Tryz.func12, Tryz.ntmps12
  go_wp2_with (go_at_call 39; fail)
  refine ht.mono ?_
  rintro e W2 ⟨g4, cap4, rfl, hb2, t0, t1, hge⟩
  have b0 := (hb2.cell (p := ⟨w.heap.size, 0, none⟩) hs1).trans a0
  have b1 := (hb2.cell (p := ⟨w.heap.size, 1, none⟩) hs1).trans a1
  have hs2 : w.heap.size < W2.heap.size := Nat.lt_of_lt_of_le hs1 hb2.size
  have e0 := (hb2.cell (p := ⟨g, 0, none⟩) hgw).trans f0
  have e1 := (hb2.cell (p := ⟨g, 1, none⟩) hgw).trans f1
  clear ht a0 a1 f0 f1
  go_wp2_with (go_at_call 40; fail)
  have hb3 : Below W2.heap.size W2 (W2.alloc (.cells #[.slice (some ⟨g4, 0, none⟩) 1 cap4, .int .i64 c0] 32)) := (Below.refl _ _).alloc (Nat.le_refl _) _
  refine (same_one g g4 cg cap4 c0 at' _ ((hb3.cell (p := ⟨g, 0, none⟩) (cell_lt e0)).trans e0) ((hb3.cell (p := ⟨g, 1, none⟩) (cell_lt e1)).trans e1) ((hb3.cell (p := ⟨g4, 0, none⟩) (cell_lt t0)).trans t0) ((hb3.cell (p := ⟨g4, 1, none⟩) (cell_lt t1)).trans t1) (Nat.lt_of_lt_of_le (cell_lt e0) hb3.size) (Nat.lt_of_lt_of_le (cell_lt t0) hb3.size)).mono ?_
  rintro e W3 ⟨rfl, hb4⟩
  go_wp2
  go_ret
  exact ⟨rfl, ((hb1.trans (hb2.mono hb1.size)).trans (hb3.mono (by omega))).trans (hb4.mono (by simp; omega))⟩



end Go.Proofs.YtoikdpjjcnmgeaaGreatDoor.Rp
end

section
/-
  DERIVED. A VR's letters, read.
-/
namespace Go.Proofs.YtoikdpjjcnmgeaaGreatDoor.Rp
open Go Go.Proofs Go.RowKit

/-- A fault of this layer, as it lies in memory. -/
def FaultAt (w : World) (q : Nat) (a c : Int) : Prop :=
  w.cell? ⟨q, 0, none⟩ = some (.string { data := #[100, 105, 99, 116] }) ∧ w.cell? ⟨q, 1, none⟩ = some (.int .i64 a) ∧ w.cell? ⟨q, 2, none⟩ = some (.iface 69 (.int .i64 c))

theorem FaultAt.next {w w' : World} {q : Nat} {a c : Int} (h : FaultAt w q a c) (hb : Below w.heap.size w w') : FaultAt w' q a c :=
  ⟨(hb.cell (cell_lt h.1)).trans h.1, (hb.cell (cell_lt h.2.1)).trans h.2.1, (hb.cell (cell_lt h.2.2)).trans h.2.2⟩

theorem refusal_any (a c : Int) (w : World) : Calls Tryz.prog 51 #[.int .i64 a, .iface 69 (.int .i64 c)] w fun e w' => ∃ q, e = .returned (.iface 70 (.pointer (some ⟨q, 0, none⟩))) ∧ FaultAt w' q a c ∧ Below w.heap.size w w' := by
  go_enter Tryz.func51, Tryz.ntmps51
  go_wp2
  go_ret
  exact ⟨w.heap.size, rfl, ⟨by simp, by simp, by simp⟩, (Below.refl _ _).alloc (Nat.le_refl _) _⟩

/-- The program's error, or none; the document's fault, or none. -/
def PErr (w : World) (v : Value) (bad : Bool) : Prop := if bad then ∃ q, v = .iface 70 (.pointer (some ⟨q, 0, none⟩)) ∧ FaultAt w q 0 62 else v = .nilIface
def RErr (w : World) (v : Value) (bad : Bool) : Prop := if bad then ∃ g c, v = .agg #[.slice (some ⟨g, 0, none⟩) 1 c, .int .i64 62] ∧ w.cell? ⟨g, 0, none⟩ = some (.string { data := #[100, 105, 99, 116] }) ∧ w.cell? ⟨g, 1, none⟩ = some (.int .i64 0) else v = .agg #[.slice none 0 0, .int .i64 0]

theorem PErr.next {w w' : World} {v : Value} {bad : Bool} (h : PErr w v bad) (hb : Below w.heap.size w w') : PErr w' v bad := by
  unfold PErr at *
  cases bad with
  | true => obtain ⟨q, rfl, hf⟩ := h; exact ⟨q, rfl, hf.next hb⟩
  | false => exact h
theorem RErr.next {w w' : World} {v : Value} {bad : Bool} (h : RErr w v bad) (hb : Below w.heap.size w w') : RErr w' v bad := by
  unfold RErr at *
  cases bad with
  | true => obtain ⟨g, c, rfl, h0, h1⟩ := h; exact ⟨g, c, rfl, (hb.cell (cell_lt h0)).trans h0, (hb.cell (cell_lt h1)).trans h1⟩
  | false => exact h

theorem is_yes {w : World} {ve vf : Value} {bad : Bool} (h1 : PErr w ve bad) (h2 : RErr w vf bad) :
    Calls Tryz.prog 12 #[ve, vf] w fun e w' => e = .returned (.bool true) ∧ Below w.heap.size w w' := by
  cases bad with
  | false =>
    unfold PErr at h1
    unfold RErr at h2
    simp only [Bool.false_eq_true, if_false] at h1 h2
    subst h1 h2
    exact is_nil w
  | true =>
    obtain ⟨q, rfl, hf⟩ := h1
    obtain ⟨g, cg, rfl, g0, g1⟩ := h2
    exact is_one 62 (by decide) q g cg 0 w hf.1 hf.2.1 hf.2.2 g0 g1

/-- Is it this VR's word? -/
def hit (s : ByteArray) (k : Nat) : Bool := (nm k).toList == s.toList

/-- The first VR from k on whose word it is; 0, if there is none. -/
def fnd (s : ByteArray) : Nat → Nat → Nat
  | 0, _ => 0
  | n + 1, k => if hit s k then k else fnd s n (k + 1)

set_option maxRecDepth 100000 in
theorem rvrword_any (w : World) (v : Int) : Calls Tryz.prog 110 #[.int .i64 v] w fun e w' => e = .returned (.string (nm (vn v))) ∧ w = w' := by
  have c33 := fun W => rep_any W v
  by_cases hv : 1 ≤ v ∧ v ≤ 28
  · have hvn : ((vn v : Nat) : Int) = v := by unfold vn; rw [if_pos hv]; omega
    have hok := (all_ok ⟨vn v, vn_lt v⟩).resolve_left (by simp only; omega)
    simp only at hok
    rw [hvn] at hok
    obtain ⟨S, hS⟩ : ∃ S, lineB v = S := ⟨_, rfl⟩
    rw [hS] at hok c33
    unfold okS at hok
    simp only [Bool.and_eq_true, decide_eq_true_eq, List.all_eq_true, beq_iff_eq] at hok
    obtain ⟨h1, h2, h3, h4, h5, h6, h7, h8, h9, h10, h11, h12, h13, h14⟩ := hok
    have e0 : S.extract 0 2 = nm (vn v) := ByteArray.ext (Array.ext' h7)
    rw [← e0]
    have hne : (S.toList == []) = false := by
      rw [ByteArray.toList_eq]
      cases hd : S.data.toList with
      | nil =>
        have : S.size = 0 := by
          show S.data.size = 0
          rw [← Array.length_toList, hd]
          rfl
        omega
      | cons a l => rfl
    have h2i : (2 : Int) ≤ (S.size : Int) := by omega
    clear hS h1 h2 h3 h4 h5 h6 h7 h8 h9 h10 h11 h12 h13 h14 e0 hvn
    go_enter Tryz.func110, Tryz.ntmps110
    go_wp2_with (first | (go_at_call 127; refine (c33 _).mono ?_; rintro e w' ⟨rfl, rfl⟩) | fail)
    go_ret
    exact ⟨rfl, rfl⟩
  · have hvn : vn v = 0 := by unfold vn; rw [if_neg hv]
    have hL : lineB v = ⟨#[]⟩ := by unfold lineB; rw [if_neg hv]
    rw [hvn, show nm 0 = ⟨#[]⟩ from rfl]
    rw [hL] at c33
    clear hvn hL
    go_enter Tryz.func110, Tryz.ntmps110
    go_wp2_with (first | (go_at_call 127; refine (c33 _).mono ?_; rintro e w' ⟨rfl, rfl⟩) | fail)
    go_ret
    exact ⟨rfl, rfl⟩
end Go.Proofs.YtoikdpjjcnmgeaaGreatDoor.Rp
end

section
/-
  DERIVED. VROf, the program's and the document's.
-/
namespace Go.Proofs.YtoikdpjjcnmgeaaGreatDoor.Rp
open Go Go.Proofs Go.RowKit

set_option maxRecDepth 100000 in
set_option maxHeartbeats 1000000 in
theorem vrof_any (w : World) (s : ByteArray) (R : Nat) (hR : fnd s 28 1 = R) : Calls Tryz.prog 271 #[.string s] w fun e w' => ∃ ve, e = .returned (.tuple #[.int .i64 (R : Int), ve]) ∧ PErr w' ve (decide (R = 0)) ∧ Below w.heap.size w w' := by
  have HR : Hid (fnd s 28 1 = R) := hR
  clear hR
  have c26 := reps_any w
  have HIX : Hid (∀ (k : Nat), k < 29 → ∃ cf ff, FunV cf ∧ FunV ff ∧ ∀ W, (Instr.index 193 (.agg repsC) (.int .i64 (k : Int))).run Tryz.prog W = .ok (.agg #[.string (nm k), .int .u8 (pd k), .int .i64 (un k), .int .i64 (mo k), .bool (tx k), .bool (ch k), .bool (mu k), .bool (lo k), cf, ff]) W) := by
    intro k hk
    obtain ⟨cf, ff, h1, h2, h3⟩ := row_shape ⟨k, hk⟩
    refine ⟨cf, ff, h1, h2, fun W => ?_⟩
    have := idx_at ⟨k, hk⟩ W
    simp only at this h3
    rw [h3] at this
    exact this
  have HB1 : Hid (Below w.heap.size w (w.alloc (.cells repsC 193))) := (Below.refl _ _).alloc (Nat.le_refl _) _
  generalize repsC = C at c26 HIX HB1
  go_enter Tryz.func271, Tryz.ntmps271
  go_wp2_with (go_at_call 120; fail)
  refine c26.mono ?_
  rintro e W1 ⟨rfl, rfl⟩
  clear c26
  go_wp2
  go_loopw [7] (fun x wr => ∃ k : Nat, x = .int .i64 (k : Int) ∧ k ≤ 29 ∧ Hid (k = 0 ∨ fnd s (29 - k) k = R) ∧ Hid (Below w.heap.size w wr)) (fun x _ => 100 - (intOf x).toNat)
  case atStart => exact ⟨0, rfl, by omega, .inl rfl, HB1⟩
  case round =>
    obtain ⟨k, rfl, hk, HK, HBr⟩ := hrel
    by_cases hk29 : k < 29
    · obtain ⟨cf, ff, hcf, hff, hix⟩ := HIX.out k hk29
      have HN : Hid (∃ h : Bool, h = hit s k ∧ (0 < k → h = true → R = k) ∧ (0 < k → h = false → fnd s (29 - (k + 1)) (k + 1) = R)) := by
        refine ⟨_, rfl, fun h0 h1 => ?_, fun h0 h1 => ?_⟩
        · have := HK.out.resolve_left (by omega)
          rw [show 29 - k = (28 - k) + 1 by omega, fnd, if_pos h1] at this
          exact this.symm
        · have := HK.out.resolve_left (by omega)
          rw [show 29 - k = (28 - k) + 1 by omega, fnd, if_neg (by rw [h1]; decide)] at this
          rw [show 29 - (k + 1) = 28 - k by omega]
          exact this
      obtain ⟨h, hh, HN1, HN2⟩ := HN.out
      have HF : Hid (∀ x, PErr x .nilIface false) := fun x => rfl
      have hhit : ((nm k).toList == s.toList) = h := hh.symm
      clear HN hh HIX
      have HN1' : Hid _ := HN1
      have HN2' : Hid _ := HN2
      clear HN1 HN2
      generalize nm k = n at hix hhit
      generalize pd k = p at hix
      generalize un k = u at hix
      generalize mo k = m at hix
      generalize tx k = t at hix
      generalize ch k = c' at hix
      generalize mu k = q at hix
      generalize lo k = l at hix
      by_cases hk0 : k = 0
      · have HZ : Hid (fnd s (29 - (k + 1)) (k + 1) = R) := by show _ = _; rw [hk0]; exact HR.out
        have HK0 : Hid (k = 0) := hk0
        obtain ⟨z, hz⟩ : ∃ z : Int, (k : Int) = z := ⟨_, rfl⟩
        rw [hz] at hix ⊢
        have hz0 : z ≤ 0 := by omega
        have hzge : -1 ≤ z := by omega
        have HZk : Hid ((k : Int) = z) := hz
        clear hk0 hz hk29 hk
        rcases hcf with rfl | ⟨j, rfl⟩ <;> rcases hff with rfl | ⟨j2, rfl⟩
        all_goals go_wp2
        all_goals exact ⟨⟨k + 1, by have := HZk.out; simp; omega, by have := HK0.out; omega, .inr HZ.out, HBr.out.alloc HBr.out.size _⟩, by have := HZk.out; have := HK0.out; simp [intOf]; omega⟩
      · have hkp : (0 : Int) < (k : Int) := by omega
        cases h with
        | true =>
          have HRk : Hid (R = k) := HN1'.out (by omega) (by simp)
          rcases hcf with rfl | ⟨j, rfl⟩ <;> rcases hff with rfl | ⟨j2, rfl⟩
          all_goals go_wp2
          all_goals refine bodyPost_ret (v := .tuple #[.int .i64 (R : Int), .nilIface]) (by simp only [results, Tryz.results271]; simp [go_sem, HRk.out]) rfl ⟨_, rfl, ?_, HBr.out.alloc HBr.out.size _⟩
          all_goals rw [decide_eq_false (by rw [HRk.out]; exact hk0)]
          all_goals exact HF.out _
        | false =>
          have HRk : Hid (fnd s (29 - (k + 1)) (k + 1) = R) := HN2'.out (by omega) (by simp)
          rcases hcf with rfl | ⟨j, rfl⟩ <;> rcases hff with rfl | ⟨j2, rfl⟩
          all_goals go_wp2
          all_goals exact ⟨⟨k + 1, by simp, by omega, .inr HRk.out, HBr.out.alloc HBr.out.size _⟩, by simp [intOf]; omega⟩
    · obtain rfl : k = 29 := by omega
      have HR0 : Hid (R = 0) := by
        have := HK.out.resolve_left (by omega)
        exact this.symm
      go_wp2_with (first | (go_at_call 51; refine (refusal_any _ _ _).mono ?_; rintro e W2 ⟨q, rfl, hf, hb2⟩) | fail)
      refine bodyPost_ret (v := .tuple #[.int .i64 (R : Int), .iface 70 (.pointer (some ⟨q, 0, none⟩))]) (by simp only [results, Tryz.results271]; simp [go_sem, HR0.out]) rfl ⟨_, rfl, ?_, HBr.out.trans (hb2.mono HBr.out.size)⟩
      rw [decide_eq_true HR0.out]
      exact ⟨q, rfl, hf⟩

theorem none_any (w : World) : Calls Tryz.prog 38 #[] w fun e w' => e = .returned (.agg #[.slice none 0 0, .int .i64 0]) ∧ Below w.heap.size w w' := by
  go_enter Tryz.func38, Tryz.ntmps38
  go_wp2
  exact bodyPost_ret (v := .agg #[.slice none 0 0, .int .i64 0]) (by simp [results, Tryz.results38, go_sem]) rfl ⟨rfl, (Below.refl _ _).alloc (Nat.le_refl _) _⟩

/-- The document's fault, still empty, as it lies in memory. -/
structure Fc (W : World) (g : Nat) : Prop where
  c0 : W.cell? ⟨g, 0, none⟩ = some (.slice none 0 0)
  c1 : W.cell? ⟨g, 1, none⟩ = some (.int .i64 0)
  cf : ∀ i, W.frozen? ⟨g, i, none⟩ = false

theorem Fc.next {W W' : World} {g : Nat} (h : Fc W g) (hb : Below W.heap.size W W') : Fc W' g :=
  ⟨(hb.cell (cell_lt h.c0)).trans h.c0, (hb.cell (cell_lt h.c1)).trans h.c1, fun i => (hb.frozen (p := ⟨g, i, none⟩) (show g < _ from cell_lt h.c0)).trans (h.cf i)⟩

theorem Fc.sets {W : World} {g : Nat} (h : Fc W g) (x0 x1 : Value) : ((W.setCell ⟨g, 0, none⟩ x0).setCell ⟨g, 1, none⟩ x1).cell? ⟨g, 0, none⟩ = some x0 ∧ ((W.setCell ⟨g, 0, none⟩ x0).setCell ⟨g, 1, none⟩ x1).cell? ⟨g, 1, none⟩ = some x1 :=
  ⟨(cell_set_ne (by decide)).trans (cell_set_eq h.c0), cell_set_eq ((cell_set_ne (by decide)).trans h.c1)⟩

set_option maxRecDepth 100000 in
set_option maxHeartbeats 1000000 in
theorem rvrof_any (w : World) (s : ByteArray) (R : Nat) (hR : fnd s 28 1 = R) : Calls Tryz.prog 71 #[.string s] w fun e w' => ∃ vf, e = .returned (.tuple #[.int .i64 (R : Int), vf]) ∧ RErr w' vf (decide (R = 0)) ∧ Below w.heap.size w w' := by
  have HR : Hid (fnd s 28 1 = R) := hR
  clear hR
  obtain ⟨W1, hW1⟩ : ∃ W1, w.alloc (.cells #[.slice none 0 0, .int .i64 0] 32) = W1 := ⟨_, rfl⟩
  have HB1 : Hid (Below w.heap.size w W1) := hW1 ▸ (Below.refl _ _).alloc (Nat.le_refl _) _
  have HF1 : Hid (Fc W1 w.heap.size) := by
    rw [← hW1]
    exact ⟨by simp, by simp, fun i => by simp⟩
  go_enter Tryz.func71, Tryz.ntmps71
  go_wp2
  clear hW1
  go_loopw [4] (fun x wr => ∃ k : Nat, x = .int .i64 (k : Int) ∧ 1 ≤ k ∧ k ≤ 29 ∧ Hid (fnd s (29 - k) k = R) ∧ Hid (Fc wr w.heap.size) ∧ Hid (Below w.heap.size w wr)) (fun x _ => 100 - (intOf x).toNat)
  case atStart => exact ⟨1, rfl, by omega, by omega, HR, HF1, HB1⟩
  case round =>
    obtain ⟨k, rfl, hk1, hk, HK, HFr, HBr⟩ := hrel
    by_cases hk29 : k < 29
    · have hvk : vn (k : Int) = k := by unfold vn; rw [if_pos (by omega)]; simp
      have c10 := rvrword_any wr (k : Int)
      rw [hvk] at c10
      have HN1 : Hid (hit s k = true → R = k) := by
        intro h1
        have := HK.out
        rw [show 29 - k = (28 - k) + 1 by omega, fnd, if_pos h1] at this
        exact this.symm
      have HN2 : Hid (hit s k = false → fnd s (29 - (k + 1)) (k + 1) = R) := by
        intro h1
        have := HK.out
        rw [show 29 - k = (28 - k) + 1 by omega, fnd, if_neg (by rw [h1]; decide)] at this
        rw [show 29 - (k + 1) = 28 - k by omega]
        exact this
      obtain ⟨h, hh⟩ : ∃ h, hit s k = h := ⟨_, rfl⟩
      have hhit : ((nm k).toList == s.toList) = h := hh
      rw [hh] at HN1 HN2
      generalize nm k = n at c10 hhit
      obtain ⟨f0, f1, ff⟩ := HFr.out
      clear hvk hh
      cases h with
      | true =>
        have HRk : Hid (R = k) := HN1.out rfl
        go_wp2_with (first | (go_at_call 110; refine c10.mono ?_; rintro e w' ⟨rfl, rfl⟩) | (go_at_call 38; refine (none_any _).mono ?_; rintro e W2 ⟨rfl, hb2⟩; obtain ⟨g0, g1, gf⟩ := HFr.out.next hb2))
        obtain ⟨u0, u1⟩ := Fc.sets ⟨g0, g1, gf⟩ (.slice none 0 0) (.int .i64 0)
        refine bodyPost_ret (v := .tuple #[.int .i64 (R : Int), .agg #[.slice none 0 0, .int .i64 0]]) (by simp only [results, Tryz.results71]; simp [go_sem, HRk.out, u0, u1]) rfl ⟨_, rfl, ?_, ((HBr.out.trans (hb2.mono HBr.out.size)).setCell (p := ⟨w.heap.size, 0, none⟩) (Nat.le_refl _) _).setCell (p := ⟨w.heap.size, 1, none⟩) (Nat.le_refl _) _⟩
        rw [decide_eq_false (by rw [HRk.out]; omega)]
        rfl
      | false =>
        have HRk : Hid (fnd s (29 - (k + 1)) (k + 1) = R) := HN2.out rfl
        go_wp2_with (first | (go_at_call 110; refine c10.mono ?_; rintro e w' ⟨rfl, rfl⟩) | fail)
        exact ⟨⟨k + 1, by simp, by omega, by omega, HRk.out, HFr, HBr⟩, by simp [intOf]; omega⟩
    · obtain rfl : k = 29 := by omega
      have HR0 : Hid (R = 0) := HK.out.symm
      obtain ⟨f0, f1, ff⟩ := HFr.out
      go_wp2_with (first | (go_at_call 36; refine (new0_any _ _ _).mono ?_; rintro e W2 ⟨rfl, hb2, q0, q1, hz⟩; obtain ⟨g0, g1, gf⟩ := HFr.out.next hb2) | fail)
      obtain ⟨u0, u1⟩ := Fc.sets ⟨g0, g1, gf⟩ (.slice (some ⟨wr.heap.size + 1, 0, none⟩) 1 1) (.int .i64 62)
      have hne : w.heap.size ≠ wr.heap.size + 1 := by have := HBr.out.size; omega
      refine bodyPost_ret (v := .tuple #[.int .i64 (R : Int), .agg #[.slice (some ⟨wr.heap.size + 1, 0, none⟩) 1 1, .int .i64 62]]) (by simp only [results, Tryz.results71]; simp [go_sem, HR0.out, u0, u1]) rfl ⟨_, rfl, ?_, ((HBr.out.trans (hb2.mono HBr.out.size)).setCell (p := ⟨w.heap.size, 0, none⟩) (Nat.le_refl _) _).setCell (p := ⟨w.heap.size, 1, none⟩) (Nat.le_refl _) _⟩
      rw [decide_eq_true HR0.out]
      exact ⟨_, _, rfl, (cell_set_off hne).trans ((cell_set_off hne).trans q0), (cell_set_off hne).trans ((cell_set_off hne).trans q1)⟩
end Go.Proofs.YtoikdpjjcnmgeaaGreatDoor.Rp
end
