import Derived.Test.YtnheeenkdjmhoaaDoorFk
import Derived.Deep.AppendLies
/-
  DERIVED. Pieces between marks.
-/
namespace Go.Proofs.YtnheeenkdjmhoaaDoor
open Go Go.Proofs Go.RowKit

theorem get_bang (s : ByteArray) (k : Nat) (h : k < s.size) : s.get! k = s[k] := by
  simp [ByteArray.get!, getElem!_pos, h]; rfl
/-- What a rune takes that is not ASCII: bytes that are not. -/
theorem decode_high_bytes (s : ByteArray) (pos : Nat) (h : pos < s.size) (ha : 128 ≤ (s[pos]'h).toNat) :
    pos + (Utf8.decode s pos).2 ≤ s.size ∧ ∀ k (hk : k < s.size), pos ≤ k → k < pos + (Utf8.decode s pos).2 → 128 ≤ (s[k]'hk).toNat := by
  have hn : ¬ (s[pos]'h).toNat < 128 := by omega
  have one : pos + 1 ≤ s.size ∧ ∀ k (hk : k < s.size), pos ≤ k → k < pos + 1 → 128 ≤ (s[k]'hk).toNat := by
    refine ⟨by omega, fun k hk h1 h2 => ?_⟩
    have : k = pos := by omega
    subst this; exact ha
  have ct : ∀ j, (decide (pos + j < s.size) && ((s.get! (pos + j)).toNat / 64 == 2)) = true → pos + j < s.size ∧ ∀ hk : pos + j < s.size, 128 ≤ (s[pos + j]'hk).toNat := by
    intro j hj
    simp only [Bool.and_eq_true, decide_eq_true_eq, beq_iff_eq] at hj
    refine ⟨hj.1, fun hk => ?_⟩
    have := hj.2
    rw [get_bang s _ hk] at this
    omega
  simp only [Utf8.decode, Nat.add_zero, get_bang s pos h, hn, if_false]
  split
  · next h1 =>
    simp only [Bool.and_eq_true] at h1
    obtain ⟨c1, d1⟩ := ct 1 (by simpa using h1.2)
    split
    · refine ⟨by show pos + 2 ≤ _; omega, fun k hk h2 h3 => ?_⟩
      have h3' : k < pos + 2 := h3
      rcases (show k = pos ∨ k = pos + 1 by omega) with rfl | rfl
      · exact ha
      · exact d1 _
    · exact one
  · split
    · next h1 =>
      simp only [Bool.and_eq_true] at h1
      obtain ⟨c1, d1⟩ := ct 1 (by simpa using h1.1.2)
      obtain ⟨c2, d2⟩ := ct 2 (by simpa using h1.2)
      split
      · refine ⟨by show pos + 3 ≤ _; omega, fun k hk h2 h3 => ?_⟩
        have h3' : k < pos + 3 := h3
        rcases (show k = pos ∨ k = pos + 1 ∨ k = pos + 2 by omega) with rfl | rfl | rfl
        · exact ha
        · exact d1 _
        · exact d2 _
      · exact one
    · split
      · next h1 =>
        simp only [Bool.and_eq_true] at h1
        obtain ⟨c1, d1⟩ := ct 1 (by simpa using h1.1.1.2)
        obtain ⟨c2, d2⟩ := ct 2 (by simpa using h1.1.2)
        obtain ⟨c3, d3⟩ := ct 3 (by simpa using h1.2)
        split
        · refine ⟨by show pos + 4 ≤ _; omega, fun k hk h2 h3 => ?_⟩
          have h3' : k < pos + 4 := h3
          rcases (show k = pos ∨ k = pos + 1 ∨ k = pos + 2 ∨ k = pos + 3 by omega) with rfl | rfl | rfl | rfl
          · exact ha
          · exact d1 _
          · exact d2 _
          · exact d3 _
        · exact one
      · exact one

/-- The pieces between marks. -/
def cutU (m : UInt8) : List UInt8 → List (List UInt8)
  | [] => [[]]
  | b :: l => if b = m then [] :: cutU m l else match cutU m l with
    | p :: ps => (b :: p) :: ps
    | [] => [[b]]
theorem cutU_none (m : UInt8) : ∀ l : List UInt8, (∀ x ∈ l, x ≠ m) → cutU m l = [l]
  | [], _ => rfl
  | b :: l, h => by
    have ih := cutU_none m l (fun x hx => h x (List.mem_cons_of_mem _ hx))
    have hb : b ≠ m := h b (List.mem_cons_self ..)
    simp [cutU, hb, ih]
theorem cutU_at (m : UInt8) : ∀ (a r : List UInt8), (∀ x ∈ a, x ≠ m) → cutU m (a ++ m :: r) = a :: cutU m r
  | [], r, _ => by simp [cutU]
  | b :: a, r, h => by
    have ih := cutU_at m a r (fun x hx => h x (List.mem_cons_of_mem _ hx))
    have hb : b ≠ m := h b (List.mem_cons_self ..)
    simp [cutU, hb, ih]
theorem cutU_len (m : UInt8) : ∀ l : List UInt8, (cutU m l).length ≤ l.length + 1
  | [] => by simp [cutU]
  | b :: l => by
    have ih := cutU_len m l
    unfold cutU
    split
    · simp; omega
    · split
      · next p ps hp => rw [hp] at ih; simp at ih ⊢; omega
      · simp

def bs1 (p : List UInt8) : ByteArray := ⟨p.toArray⟩
def strs (ps : List (List UInt8)) : List Value := ps.map fun p => .string (bs1 p)
theorem strs_app (a b : List (List UInt8)) : strs (a ++ b) = strs a ++ strs b := by simp [strs]
theorem strs_len (a : List (List UInt8)) : (strs a).length = a.length := by simp [strs]
theorem bs1_tl (s : ByteArray) : bs1 (tl s) = s := by unfold bs1 tl; simp
theorem info9s : (Tryd.prog.info? 9).map (fun i => (i.zero, i.size, i.bytes)) = some (some (.string { data := #[] }), 1, 16) := by kernel_rfl

/-- What stands between two rounds of cut. -/
def CutI (w : World) (B : Nat) (s : ByteArray) (m : UInt8) (pv fv : Value) (wr : World) : Prop :=
  ∃ (pos from' : Nat) (ps : List (List UInt8)), from' ≤ pos ∧ pos ≤ s.size ∧ fv = .int .i64 from' ∧ wr.ownsRow (B + 1) 9 1 pv ps.length (strs ps) ∧ wr.heap[B]? = some (.stringIter s pos) ∧ Below B w wr ∧ ps ++ cutU m ((tl s).drop from') = cutU m (tl s) ∧ (∀ x ∈ ((tl s).take pos).drop from', x ≠ m) ∧ ps.length ≤ pos
theorem own_iterAt {wr : World} {B : Nat} {s : ByteArray} {q : Nat} {e : TypeId} {size : Nat} {v : Value} {n : Nat} {xs : List Value} (h : wr.ownsRow (B + 1) e size v n xs) : (wr.iterAt B s q).ownsRow (B + 1) e size v n xs :=
  owns_of h fun g hg => Lib.iterAt_other wr B g s q (by have := (h.lt g hg).1; omega)

theorem drop_take_mono {l : List UInt8} {a b c : Nat} (hbc : b ≤ c) {P : UInt8 → Prop} (h1 : ∀ x ∈ (l.take b).drop a, P x) (h2 : ∀ k (hk : k < l.length), b ≤ k → k < c → P l[k]) : ∀ x ∈ (l.take c).drop a, P x := by
  intro x hx
  obtain ⟨i, hi, rfl⟩ := List.getElem_of_mem hx
  rw [List.length_drop, List.length_take] at hi
  rw [List.getElem_drop, List.getElem_take]
  by_cases hlt : a + i < b
  · have hm : ((l.take b).drop a)[i]'(by rw [List.length_drop, List.length_take]; omega) ∈ (l.take b).drop a := List.getElem_mem _
    have := h1 _ hm
    rwa [List.getElem_drop, List.getElem_take] at this
  · exact h2 (a + i) (by omega) (by omega) (by omega)

set_option maxRecDepth 100000 in
set_option maxHeartbeats 4000000 in
theorem cut_any (w : World) (s : ByteArray) (m : UInt8) (hm : m.toNat < 128) (hl : s.size ≤ 16777216) : Calls Tryd.prog 41 #[.string s, .int .u8 (m.toNat : Nat)] w fun e w' => ∃ v, e = .returned v ∧ w'.ownsRow (w.heap.size + 1) 9 1 v (cutU m (tl s)).length (strs (cutU m (tl s))) ∧ Below w.heap.size w w' := by
  obtain ⟨i0, hi, hz0, hz1, hz2⟩ := info_parts info9s
  obtain ⟨B, hB⟩ : ∃ B, w.heap.size = B := ⟨_, rfl⟩
  have HB : Hid (w.heap.size = B) := hB
  obtain ⟨y, hy⟩ : ∃ y, m.toNat = y := ⟨_, rfl⟩
  have HY : Hid (m.toNat = y) := hy
  rw [hy] at hm ⊢
  clear hy
  go_enter Tryd.func41, Tryd.ntmps41
  go_wp2
  clear hB
  go_loopw [5, 6] (fun pv fv wr => CutI w B s m pv fv wr) (fun _ _ wr => s.size - wr.iterPos B)
  case atStart =>
    refine ⟨0, 0, [], Nat.le_refl _, Nat.zero_le _, rfl, World.ownsRow_nil _ _ _ _, ?_, ?_, rfl, by simp, Nat.le_refl _⟩
    · have := World.iter_heap w s 0
      rw [HB.out] at this
      simpa using this
    · exact (Below.refl _ w).alloc (by have := HB.out; omega) _
  case round =>
    obtain ⟨pos, fr, ps, hfp, hps, rfl, hown, hit, hbe, hcut, hno, hpl⟩ := hrel
    obtain ⟨ao, cap, rfl⟩ := own_slice hown
    have hsz : B < wr.heap.size := (Array.getElem?_eq_some_iff.1 hit).1
    have HC : Hid (ps ++ cutU m ((tl s).drop fr) = cutU m (tl s)) := hcut
    have HN : Hid (∀ x ∈ ((tl s).take pos).drop fr, x ≠ m) := hno
    have HM : Hid (wr.iterPos B = pos) := by show World.iterPos _ _ = _; simp only [World.iterPos, hit]
    clear hcut hno
    by_cases hp : pos < s.size
    · have hnx0 : ∀ ty, (Instr.next (.pointer (some ⟨B, 0, none⟩)) true ty).run Tryd.prog wr = _ := fun ty => Lib.run_next_any_at wr B s pos ty hit hp
      by_cases ha : (s[pos]'hp).toNat < 128
      · have hd := decode_ascii s pos hp ha
        obtain ⟨c, hc⟩ : ∃ c, (s[pos]'hp).toNat = c := ⟨_, rfl⟩
        have HCc : Hid ((s[pos]'hp).toNat = c) := hc
        obtain ⟨W0, hW0⟩ : ∃ W0, wr.iterAt B s (pos + 1) = W0 := ⟨_, rfl⟩
        have hnx : ∀ ty, (Instr.next (.pointer (some ⟨B, 0, none⟩)) true ty).run Tryd.prog wr = .ok (.tuple #[.bool true, .int .i64 pos, .int .i32 c]) W0 := by
          intro ty; rw [hnx0 ty, hd, hc, hW0]
        have HO : Hid (W0.ownsRow (B + 1) 9 1 (.slice ao ps.length cap) ps.length (strs ps)) := hW0 ▸ own_iterAt hown
        have HH : Hid (W0.heap[B]? = some (.stringIter s (pos + 1))) := hW0 ▸ Lib.iterAt_heap wr B s pos (pos + 1) hit
        have HE : Hid (Below B w W0) := hW0 ▸ Lib.below_iterAt hbe (k := B) (Nat.le_refl _) s (pos + 1)
        have HS : Hid (B < W0.heap.size) := (Array.getElem?_eq_some_iff.1 HH.out).1
        clear hnx0 hd ha hc hown hit hbe hW0
        by_cases hcm : c = y
        · subst hcm
          have hem : s[pos] = m := UInt8.toNat_inj.1 (HCc.out.trans HY.out.symm)
          have HP : Hid (cutU m ((tl s).drop fr) = ((tl s).take pos).drop fr :: cutU m ((tl s).drop (pos + 1))) := by
            have e1 : (tl s).drop fr = ((tl s).take pos).drop fr ++ m :: (tl s).drop (pos + 1) := by
              have e2 : (tl s) = (tl s).take pos ++ m :: (tl s).drop (pos + 1) := by
                have := List.take_append_drop pos (tl s)
                rw [List.drop_eq_getElem_cons (by rw [tl_len]; exact hp), tl_get s pos hp, hem] at this
                exact this.symm
              have e3 := congrArg (List.drop fr) e2
              rw [List.drop_append_of_le_length (by rw [List.length_take, tl_len]; omega)] at e3
              exact e3
            show cutU m _ = _
            rw [e1]
            exact cutU_at m _ _ HN.out
          have HT : Hid (tl (s.extract fr pos) = ((tl s).take pos).drop fr) := tl_extract s fr pos
          have hb1 : B ≤ W0.heap.size := Nat.le_of_lt HS.out
          clear hem
          go_wp2_with (first | (at_builtin; refine wpList_append_lies _ rfl _ _ 38 rfl (B + 1) 9 i0 _ 1 16 Tryd.underlying38 hi hz0 hz1 hz2 rfl (by decide) (.slice ao ps.length cap) ps.length (strs ps) rfl (World.ownsRow.alloc HO.out _) ⟨W0.heap.size, 0, none⟩ 1 1 [.string (s.extract fr pos)] rfl rfl (cell_one_new _ _ _) (by intro u hu; simp at hu; subst hu; rfl) (by decide) (by unfold maxLen; omega) (by omega) (by have := HS.out; simp; omega) (W0.heap.size + 1) (by simp) ?_) | fail)
          intro g cp W2 hown2 hgrow2 hat2 hlt2
          have HE2 : Hid (Below B w W2) := (HE.out.alloc hb1 _).grown hgrow2 (by simp; omega) (fun j hj => by have := (HO.out.lt j hj).1; omega)
          have HH2 : Hid (W2.heap[B]? = some (.stringIter s (pos + 1))) := by
            show W2.heap[B]? = _
            rw [hgrow2.block B (by simp; have := HS.out; omega) (fun hj => by have := (HO.out.lt B hj.symm).1; omega)]
            exact (Below.heap_alloc W0 _ B HS.out).trans HH.out
          have HO2 : Hid (W2.ownsRow (B + 1) 9 1 (.slice (some ⟨g, 0, none⟩) (ps.length + 1) cp) (ps ++ [((tl s).take pos).drop fr]).length (strs (ps ++ [((tl s).take pos).drop fr]))) := by
            show World.ownsRow _ _ _ _ _ _ _
            rw [strs_app, List.length_append]
            have : strs [((tl s).take pos).drop fr] = [.string (s.extract fr pos)] := by rw [← HT.out]; simp [strs, bs1_tl]
            rw [this]
            exact hown2
          clear hown2 hgrow2 hat2 hlt2
          go_wp2
          go_roundw
          case rel =>
            refine ⟨pos + 1, pos + 1, ps ++ [((tl s).take pos).drop fr], Nat.le_refl _, by omega, by go_num, HO2.out, HH2.out, HE2.out, ?_, ?_, by simp; omega⟩
            · rw [List.append_assoc, ← HC.out, HP.out]; rfl
            · rw [List.drop_eq_nil_of_le (by rw [List.length_take]; omega)]; simp
          case measure =>
            rw [HM.out]
            simp only [World.iterPos, HH2.out]
            omega
        · have hne : ((c : Int) == (y : Int)) = false := by simp; omega
          go_wp2
          go_roundw
          case rel =>
            refine ⟨pos + 1, fr, ps, by omega, by omega, rfl, HO.out, HH.out, HE.out, HC.out, ?_, by omega⟩
            refine drop_take_mono (by omega) HN.out fun k hk h1 h2 => ?_
            have : k = pos := by omega
            subst this
            rw [tl_get s k hp]
            intro he
            have := HCc.out; rw [he, HY.out] at this
            exact hcm this.symm
          case measure =>
            rw [HM.out]
            simp only [World.iterPos, HH.out]
            omega
      · have hd := (decode_high s pos hp (by omega))
        obtain ⟨hb1, hb2⟩ := decode_high_bytes s pos hp (by omega)
        obtain ⟨c, hc⟩ : ∃ c, (Utf8.decode s pos).1 = c := ⟨_, rfl⟩
        obtain ⟨k, hk⟩ : ∃ k, (Utf8.decode s pos).2 = k := ⟨_, rfl⟩
        obtain ⟨W0, hW0⟩ : ∃ W0, wr.iterAt B s (pos + k) = W0 := ⟨_, rfl⟩
        rw [hk] at hb1 hb2 hd
        rw [hc] at hd
        have hnx : ∀ ty, (Instr.next (.pointer (some ⟨B, 0, none⟩)) true ty).run Tryd.prog wr = .ok (.tuple #[.bool true, .int .i64 pos, .int .i32 c]) W0 := by
          intro ty; rw [hnx0 ty, hc, hk, hW0]
        have HO : Hid (W0.ownsRow (B + 1) 9 1 (.slice ao ps.length cap) ps.length (strs ps)) := hW0 ▸ own_iterAt hown
        have HH : Hid (W0.heap[B]? = some (.stringIter s (pos + k))) := hW0 ▸ Lib.iterAt_heap wr B s pos (pos + k) hit
        have HE : Hid (Below B w W0) := hW0 ▸ Lib.below_iterAt hbe (k := B) (Nat.le_refl _) s (pos + k)
        clear hnx0 ha hc hk hown hit hbe hW0
        have HB2 : Hid (∀ k_1 (hk : k_1 < s.size), pos ≤ k_1 → k_1 < pos + k → 128 ≤ (s[k_1]'hk).toNat) := hb2
        clear hb2
        have hne : ((c : Int) == (y : Int)) = false := by simp; omega
        go_wp2
        go_roundw
        case rel =>
          refine ⟨pos + k, fr, ps, by omega, by omega, rfl, HO.out, HH.out, HE.out, HC.out, ?_, by omega⟩
          refine drop_take_mono (by omega) HN.out fun k hk h1 h2 => ?_
          have hk' : k < s.size := by rw [tl_len] at hk; exact hk
          rw [tl_get s k hk']
          intro he
          have := HB2.out k hk' h1 h2
          rw [he, HY.out] at this
          omega
        case measure =>
          rw [HM.out]
          simp only [World.iterPos, HH.out]
          omega
    · have hnx : ∀ ty, (Instr.next (.pointer (some ⟨B, 0, none⟩)) true ty).run Tryd.prog wr = _ := fun ty => Lib.run_next_end_at wr B s pos ty hit hp
      have hpe : pos = s.size := by omega
      have HP : Hid (pos = s.size) := hpe
      have hns : fr ≤ s.size := by omega
      have HT : Hid (tl (s.extract fr s.size) = (tl s).drop fr) := by
        show tl _ = _
        rw [tl_extract, ← tl_len, List.take_length]
      have hb1 : B ≤ wr.heap.size := Nat.le_of_lt hsz
      have HO : Hid (wr.ownsRow (B + 1) 9 1 (.slice ao ps.length cap) ps.length (strs ps)) := hown
      have HE : Hid (Below B w wr) := hbe
      have HR : Hid (cutU m (tl s) = ps ++ [(tl s).drop fr]) := by
        show cutU m _ = _
        rw [← HC.out, cutU_none m ((tl s).drop fr)]
        have := HN.out
        rw [HP.out, ← tl_len, List.take_length] at this
        exact this
      clear hpe hown hbe
      go_wp2_with (first | (at_builtin; refine wpList_append_lies _ rfl _ _ 38 rfl (B + 1) 9 i0 _ 1 16 Tryd.underlying38 hi hz0 hz1 hz2 rfl (by decide) (.slice ao ps.length cap) ps.length (strs ps) rfl (World.ownsRow.alloc HO.out _) ⟨wr.heap.size, 0, none⟩ 1 1 [.string (s.extract fr s.size)] rfl rfl (cell_one_new _ _ _) (by intro u hu; simp at hu; subst hu; rfl) (by decide) (by unfold maxLen; omega) (by omega) (by simp; omega) (wr.heap.size + 1) (by simp) ?_) | fail)
      intro g cp W2 hown2 hgrow2 hat2 hlt2
      have HE2 : Hid (Below B w W2) := (HE.out.alloc hb1 _).grown hgrow2 (by simp; omega) (fun j hj => by have := (HO.out.lt j hj).1; omega)
      have HO2 : Hid (W2.ownsRow (B + 1) 9 1 (.slice (some ⟨g, 0, none⟩) (ps.length + 1) cp) (cutU m (tl s)).length (strs (cutU m (tl s)))) := by
        show World.ownsRow _ _ _ _ _ _ _
        rw [HR.out, strs_app, List.length_append]
        have : strs [(tl s).drop fr] = [.string (s.extract fr s.size)] := by rw [← HT.out]; simp [strs, bs1_tl]
        rw [this]
        exact hown2
      clear hown2 hgrow2 hat2 hlt2
      go_wp2
      go_ret
      exact ⟨_, rfl, HB.out ▸ HO2.out, HB.out ▸ HE2.out⟩
end Go.Proofs.YtnheeenkdjmhoaaDoor
