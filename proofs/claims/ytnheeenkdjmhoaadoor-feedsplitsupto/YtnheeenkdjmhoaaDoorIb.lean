import Derived.Test.YtnheeenkdjmhoaaDoorIa
/-
  DERIVED. The document's segments, and the header's fields.
-/
namespace Go.Proofs.YtnheeenkdjmhoaaDoor
open Go Go.Proofs Go.RowKit

/-- The segments that have bytes. -/
def segL (ps : List (List UInt8)) : List (List UInt8) := (ps.map trimL).filter fun s => s ≠ []
theorem segL_cons (p : List UInt8) (r : List (List UInt8)) : segL (p :: r) = (if trimL p = [] then [] else [trimL p]) ++ segL r := by
  unfold segL
  by_cases h : trimL p = [] <;> simp [h]
def SegI (W1 : World) (B1 : Nat) (ps : List (List UInt8)) (lv iv : Value) (wr : World) : Prop :=
  ∃ (k : Nat) (acc : List (List UInt8)), k ≤ ps.length ∧ iv = .int .i64 k ∧ wr.ownsRow B1 9 1 lv acc.length (strs acc) ∧ Below B1 W1 wr ∧ acc ++ segL (ps.drop k) = segL ps ∧ acc.length ≤ k
theorem cutU_ne (m : UInt8) (l : List UInt8) : ∃ p r, cutU m l = p :: r := by
  cases h : cutU m l with
  | nil => have := cutU_pos m l; rw [h] at this; simp at this
  | cons p r => exact ⟨p, r, rfl⟩

set_option maxRecDepth 100000 in
set_option maxHeartbeats 4000000 in
theorem segs_any (w : World) (s : ByteArray) (hl : s.size ≤ 16000000) : Calls Tryd.prog 27 #[.string s] w fun e w' => ∃ v b, e = .returned v ∧ w.heap.size ≤ b ∧ w'.ownsRow b 9 1 v (segL (cutU 13 (tl s))).length (strs (segL (cutU 13 (tl s)))) ∧ Below w.heap.size w w' := by
  obtain ⟨i0, hi, hz0, hz1, hz2⟩ := info_parts info9s
  have hct : Calls Tryd.prog 30 #[.string s, .int .u8 13] w fun e w' => ∃ v, e = .returned v ∧ w'.ownsRow w.heap.size 9 1 v (cutU 13 (tl s)).length (strs (cutU 13 (tl s))) ∧ Below w.heap.size w w' := cutR_any w s 13 (by omega)
  have hpl : (cutU 13 (tl s)).length ≤ s.size + 1 := by have := cutU_len 13 (tl s); rw [tl_len] at this; exact this
  have hpm : ∀ p ∈ cutU 13 (tl s), p.length ≤ s.size := fun p hp => by have := cutU_mem 13 (tl s) p hp; rw [tl_len] at this; exact this
  have hpos := cutU_pos 13 (tl s)
  obtain ⟨ps, hps⟩ : ∃ ps, cutU 13 (tl s) = ps := ⟨_, rfl⟩
  rw [hps] at hct hpl hpm hpos ⊢
  have HPM : Hid (∀ p ∈ ps, p.length ≤ s.size) := hpm
  clear hpm hps
  go_enter Tryd.func27, Tryd.ntmps27
  go_wp2_with (go_at_call 30; refine StopF.out ?_)
  refine StopF.mk (hct.mono ?_)
  rintro e W1 ⟨pv, rfl, ho1, hb1⟩
  clear hct
  obtain ⟨gp, cp, rfl⟩ := owns_pos ho1 hpos
  obtain ⟨B1, hB1⟩ : ∃ B1, W1.heap.size = B1 := ⟨_, rfl⟩
  have HB1 : Hid (W1.heap.size = B1) := hB1
  have HO1 : Hid (W1.ownsRow w.heap.size 9 1 (.slice (some ⟨gp, 0, none⟩) ps.length cp) ps.length (strs ps)) := ho1
  have HE1 : Hid (Below w.heap.size w W1) := hb1
  clear ho1 hb1 hB1
  go_wp2
  go_loopw [3, 5] (fun lv iv wr => SegI W1 B1 ps lv iv wr) (fun _ i _ => ps.length - (intOf i).toNat)
  case atStart => exact ⟨0, [], Nat.zero_le _, rfl, World.ownsRow_nil _ _ _ _, Below.refl _ _, rfl, Nat.le_refl _⟩
  case round =>
    obtain ⟨k, acc, hk, rfl, hown, hbe, hseg, hal⟩ := hrel
    obtain ⟨ao, cap, rfl⟩ := own_slice hown
    have HO : Hid (wr.ownsRow B1 9 1 (.slice ao acc.length cap) acc.length (strs acc)) := hown
    have HE : Hid (Below B1 W1 wr) := hbe
    have HS : Hid (acc ++ segL (ps.drop k) = segL ps) := hseg
    have hbs : B1 ≤ wr.heap.size := by have := HE.out.size; have := HB1.out; omega
    clear hown hbe hseg
    by_cases hkn : k < ps.length
    · obtain ⟨p, hp⟩ : ∃ p, ps[k] = p := ⟨_, rfl⟩
      have hcell : wr.cell? ⟨gp, k, none⟩ = some (.string (bs1 p)) := by
        have hpc := ownsRow_below HO1.out HE.out (by rw [HB1.out]; exact Nat.le_refl _)
        have h1 := hpc.cellAt k (by omega)
        rw [h1]
        simp [strs, hkn, hp]
      have hdr : ps.drop k = p :: ps.drop (k + 1) := by rw [← hp]; exact List.drop_eq_getElem_cons hkn
      have hpm : p.length ≤ s.size := HPM.out p (by rw [← hp]; exact List.getElem_mem _)
      have hG := HS.out
      rw [hdr, segL_cons] at hG
      have hsz : (bs1 p).size = p.length := by rw [← tl_len, tl_bs1]
      obtain ⟨q, hq⟩ : ∃ q, bs1 p = q := ⟨_, rfl⟩
      rw [hq] at hcell hsz
      have htq : tl q = p := by rw [← hq, tl_bs1]
      have hqs : q.size ≤ s.size := by omega
      clear hdr hp hq
      -- what is left when the byte ahead is let go
      have hways : (p = [] ∧ trimL p = []) ∨ (∃ r, p = 10 :: r ∧ trimL p = r) ∨ (∃ a r, p = a :: r ∧ a ≠ 10 ∧ trimL p = p) := by
        cases p with
        | nil => exact .inl ⟨rfl, rfl⟩
        | cons a r =>
          by_cases ha : a = 10
          · subst ha; exact .inr (.inl ⟨r, rfl, rfl⟩)
          · refine .inr (.inr ⟨a, r, rfl, ha, ?_⟩)
            unfold trimL; split
            · next h => simp at h; exact absurd h.1 ha
            · rfl
      rcases hways with ⟨hp0, htr⟩ | ⟨r, hp1, htr⟩ | ⟨a, r, hp1, ha, htr⟩
      · rw [htr, if_pos rfl, List.nil_append] at hG
        obtain rfl : q = { data := #[] } := tl_ext (by rw [htq, hp0]; rfl)
        clear htr hp0 htq hsz
        have HG : Hid (acc ++ segL (ps.drop (k + 1)) = segL ps) := hG
        clear hG
        go_wp2
        go_roundw
        case rel => exact ⟨k + 1, acc, by omega, by go_num, HO.out, HE.out, HG.out, by omega⟩
        case measure => simp [intOf]; omega
      · have hq0 : 0 < q.size := by rw [hsz, hp1]; simp
        have d0 : decide ((0 : Int) < (q.size : Int)) = true := by simp; omega
        have g0 : (q[0]'hq0).toNat = 10 := by rw [← tl_getD q 0 hq0, htq, hp1]; rfl
        obtain ⟨x, hx⟩ : ∃ x, q.extract 1 q.size = x := ⟨_, rfl⟩
        have htx : tl x = r := by rw [← hx, tl_extract, ← tl_len, List.take_length, htq, hp1]; rfl
        rw [htr] at hG
        clear htr hp1 htq hsz
        cases r with
        | nil =>
          rw [if_pos rfl, List.nil_append] at hG
          obtain rfl : x = { data := #[] } := tl_ext htx
          clear htx
          have HG : Hid (acc ++ segL (ps.drop (k + 1)) = segL ps) := hG
          clear hG
          go_wp2
          go_roundw
          case rel => exact ⟨k + 1, acc, by omega, by go_num, HO.out, HE.out, HG.out, by omega⟩
          case measure => simp [intOf]; omega
        | cons b r =>
          have n1 : (x.toList == []) = false := by
            rw [ByteArray.toList_eq]; simp only [beq_eq_false_iff_ne]; intro hh
            have h9 : tl x = [] := hh
            rw [htx] at h9; cases h9
          have n2 : x.toList.isEmpty = false := by
            rw [ByteArray.toList_eq]
            cases hc : x.data.toList with
            | nil => have h9 : tl x = [] := hc
                     rw [htx] at h9; cases h9
            | cons a b => rfl
          rw [if_neg (by simp), ← htx] at hG
          clear htx
          have HG : Hid ((acc ++ [tl x]) ++ segL (ps.drop (k + 1)) = segL ps) := by show _ = _; rw [List.append_assoc]; exact hG
          clear hG
          go_wp2_with (first | (at_builtin; refine wpList_append_lies _ rfl _ _ 38 rfl B1 9 i0 _ 1 16 Tryd.underlying38 hi hz0 hz1 hz2 rfl (by decide) (.slice ao acc.length cap) acc.length (strs acc) rfl (World.ownsRow.alloc HO.out _) ⟨wr.heap.size, 0, none⟩ 1 1 [.string x] rfl rfl (cell_one_new _ _ _) (by intro u hu; simp at hu; subst hu; rfl) (by decide) (by unfold maxLen; omega) (by omega) (by simp; omega) (wr.heap.size + 1) (by simp) ?_) | fail)
          intro g cp2 W2 hown2 hgrow2 hat2 hlt2
          have HE2 : Hid (Below B1 W1 W2) := (HE.out.alloc hbs _).grown hgrow2 (by simp; omega) (fun j hj => (HO.out.lt j hj).1)
          have HO2 : Hid (W2.ownsRow B1 9 1 (.slice (some ⟨g, 0, none⟩) (acc.length + 1) cp2) (acc ++ [tl x]).length (strs (acc ++ [tl x]))) := by
            show World.ownsRow _ _ _ _ _ _ _
            rw [strs_app, List.length_append]
            have : strs [tl x] = [.string x] := by simp [strs, bs1_tl]
            rw [this]
            exact hown2
          clear hown2 hgrow2 hat2 hlt2
          go_wp2
          go_roundw
          case rel => exact ⟨k + 1, acc ++ [tl x], by omega, by go_num, HO2.out, HE2.out, HG.out, by simp; omega⟩
          case measure => simp [intOf]; omega
      · have hq0 : 0 < q.size := by rw [hsz, hp1]; simp
        have d0 : decide ((0 : Int) < (q.size : Int)) = true := by simp; omega
        obtain ⟨y, hy⟩ : ∃ y, (q[0]'hq0).toNat = y := ⟨_, rfl⟩
        have g0 : ((y : Int) == 10) = false := by
          have : q[0]'hq0 = a := by rw [← tl_getD q 0 hq0, htq, hp1]; rfl
          rw [this] at hy
          simp
          intro h
          apply ha
          apply UInt8.toNat_inj.1
          rw [hy]
          have : y = 10 := by omega
          rw [this]; rfl
        have hne : tl q ≠ [] := by rw [htq, hp1]; simp
        have n1 : (q.toList == []) = false := by
          rw [ByteArray.toList_eq]; simp only [beq_eq_false_iff_ne]; exact hne
        have n2 : q.toList.isEmpty = false := by
          rw [ByteArray.toList_eq]
          cases hc : q.data.toList with
          | nil => exact absurd hc hne
          | cons a b => rfl
        rw [htr, if_neg (by rw [hp1]; simp), ← htq] at hG
        clear htr hp1 htq hsz ha hne
        have HG : Hid ((acc ++ [tl q]) ++ segL (ps.drop (k + 1)) = segL ps) := by show _ = _; rw [List.append_assoc]; exact hG
        clear hG
        go_wp2_with (first | (at_builtin; refine wpList_append_lies _ rfl _ _ 38 rfl B1 9 i0 _ 1 16 Tryd.underlying38 hi hz0 hz1 hz2 rfl (by decide) (.slice ao acc.length cap) acc.length (strs acc) rfl (World.ownsRow.alloc HO.out _) ⟨wr.heap.size, 0, none⟩ 1 1 [.string q] rfl rfl (cell_one_new _ _ _) (by intro u hu; simp at hu; subst hu; rfl) (by decide) (by unfold maxLen; omega) (by omega) (by simp; omega) (wr.heap.size + 1) (by simp) ?_) | fail)
        intro g cp2 W2 hown2 hgrow2 hat2 hlt2
        have HE2 : Hid (Below B1 W1 W2) := (HE.out.alloc hbs _).grown hgrow2 (by simp; omega) (fun j hj => (HO.out.lt j hj).1)
        have HO2 : Hid (W2.ownsRow B1 9 1 (.slice (some ⟨g, 0, none⟩) (acc.length + 1) cp2) (acc ++ [tl q]).length (strs (acc ++ [tl q]))) := by
          show World.ownsRow _ _ _ _ _ _ _
          rw [strs_app, List.length_append]
          have : strs [tl q] = [.string q] := by simp [strs, bs1_tl]
          rw [this]
          exact hown2
        clear hown2 hgrow2 hat2 hlt2
        go_wp2
        go_roundw
        case rel => exact ⟨k + 1, acc ++ [tl q], by omega, by go_num, HO2.out, HE2.out, HG.out, by simp; omega⟩
        case measure => simp [intOf]; omega
    · have hke : k = ps.length := by omega
      have hG := HS.out
      rw [hke, List.drop_length] at hG
      have HG : Hid (segL ps = acc) := by show segL ps = _; rw [← hG]; simp [segL]
      clear hG hke
      go_wp2
      go_ret
      have q1 := HE1.out.size
      exact ⟨_, B1, rfl, by have := HB1.out; omega, by rw [HG.out]; exact HO.out, HE1.out.trans (HE.out.mono (by have := HB1.out; omega))⟩
end Go.Proofs.YtnheeenkdjmhoaaDoor
