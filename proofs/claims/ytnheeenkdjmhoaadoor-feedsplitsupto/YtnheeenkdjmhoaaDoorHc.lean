import Derived.Test.YtnheeenkdjmhoaaDoorHb
import Derived.Deep.AppendLies
/-
  DERIVED. Hexadecimal bytes of the program.
-/
namespace Go.Proofs.YtnheeenkdjmhoaaDoor
open Go Go.Proofs Go.RowKit

def hexP : List UInt8 → Option (List UInt8)
  | [] => some []
  | [_] => none
  | a :: b :: r => match hvs [a, b] 0 with
    | none => none
    | some n => (hexP r).map fun l => UInt8.ofNat n :: l
/-- What pairs of hexadecimal digits say. -/
def hexO (h : List UInt8) : Option (List UInt8) := if h = [] then none else hexP h
theorem hexP_odd : ∀ l : List UInt8, l.length % 2 = 1 → hexP l = none
  | [], h => by simp at h
  | [_], _ => rfl
  | a :: b :: r, h => by
    have ih := hexP_odd r (by simp at h; omega)
    unfold hexP
    cases hvs [a, b] 0 with
    | none => rfl
    | some n => simp [ih]
theorem hexP_len : ∀ (l r : List UInt8), hexP l = some r → r.length ≤ l.length
  | [], r, h => by simp [hexP] at h; subst h; simp
  | [_], r, h => by simp [hexP] at h
  | a :: b :: l, r, h => by
    unfold hexP at h
    cases hv : hvs [a, b] 0 with
    | none => rw [hv] at h; simp at h
    | some n =>
      rw [hv] at h
      simp only [Option.map_eq_some_iff] at h
      obtain ⟨q, hq, rfl⟩ := h
      have := hexP_len l q hq
      simp; omega
/-- What stands between two rounds. -/
def HxI (w : World) (B : Nat) (s : ByteArray) (R : Option (List UInt8)) (bv iv : Value) (wr : World) : Prop :=
  ∃ (k : Nat) (acc : List UInt8), 2 * k ≤ s.size ∧ acc.length = k ∧ iv = .int .i64 ((2 * k : Nat) : Int) ∧ wr.ownsRow B 5 1 bv acc.length (Lib.byteCells acc) ∧ Below B w wr ∧ (hexP ((tl s).drop (2 * k))).map (fun l => acc ++ l) = R

theorem own_bs {W : World} {B : Nat} {ao : Option Addr} {cap : Nat} {acc : List UInt8} (h : W.ownsRow B 5 1 (.slice ao acc.length cap) acc.length (Lib.byteCells acc)) : BS W ao (bs1 acc) := by
  intro hz
  have hz' : 0 < acc.length := by rw [← tl_len, tl_bs1] at hz; exact hz
  obtain ⟨g, c, hv⟩ := owns_pos h hz'
  simp only [Value.slice.injEq] at hv
  obtain ⟨rfl, _, rfl⟩ := hv
  refine ⟨g, 0, rfl, fun k hk => ?_⟩
  have hk' : k < acc.length := by rw [← tl_len, tl_bs1] at hk; exact hk
  have := h.cellAt k (by omega)
  rw [Nat.zero_add, this, Lib.byteCells, List.getElem?_map, List.getElem?_eq_getElem hk']
  rw [← tl_get (bs1 acc) k hk]
  simp [tl_bs1]

set_option maxRecDepth 100000 in
set_option maxHeartbeats 4000000 in
theorem hex60 (w : World) (s : ByteArray) (hl : s.size ≤ 16000000) (hg : Glob w) : Calls Tryd.prog 60 #[.string s] w fun e w' => ((∃ l, hexO (tl s) = some l ∧ e = .returned (.tuple #[.string (bs1 l), .bool true])) ∨ (hexO (tl s) = none ∧ e = .returned (.tuple #[.string { data := #[] }, .bool false]))) ∧ Below w.heap.size w w' := by
  by_cases h0 : s.size = 0
  · have ht : tl s = [] := List.eq_nil_of_length_eq_zero (by rw [tl_len]; exact h0)
    obtain rfl : s = { data := #[] } := tl_ext ht
    go_enter Tryd.func60, Tryd.ntmps60
    go_wp2
    exact bodyPost_ret (v := .tuple #[.string { data := #[] }, .bool false]) (by simp [results, Tryd.results60, go_sem]) rfl ⟨.inr ⟨rfl, rfl⟩, Below.refl _ _⟩
  · have hn0 : tl s ≠ [] := by intro h; have := tl_len s; rw [h] at this; simp at this; omega
    have hn1 : (s.toList == []) = false := by
      rw [ByteArray.toList_eq]; simp only [beq_eq_false_iff_ne]; exact hn0
    have hn2 : s.toList.isEmpty = false := by
      rw [ByteArray.toList_eq]
      cases hc : s.data.toList with
      | nil => exact absurd hc hn0
      | cons a b => rfl
    have hO : hexO (tl s) = hexP (tl s) := by unfold hexO; rw [if_neg hn0]
    rw [hO]
    by_cases hod : s.size % 2 = 1
    · have hP := hexP_odd (tl s) (by rw [tl_len]; exact hod)
      have hr1 : ((s.size : Int) % 2) = 1 := by omega
      have hr2 : Int.tmod (s.size : Int) 2 = 1 := by rw [Int.tmod_eq_emod_of_nonneg (by omega)]; exact hr1
      obtain ⟨R, hR⟩ : ∃ R, hexP (tl s) = R := ⟨_, rfl⟩
      rw [hR] at hP ⊢
      have HRn : Hid (R = none) := hP
      clear hP hR hO
      go_enter Tryd.func60, Tryd.ntmps60
      go_wp2
      all_goals
        exact bodyPost_ret (v := .tuple #[.string { data := #[] }, .bool false]) (by simp [results, Tryd.results60, go_sem]) rfl ⟨.inr ⟨HRn.out, rfl⟩, Below.refl _ _⟩
    · have hr1 : ((s.size : Int) % 2) = 0 := by omega
      have hr2 : Int.tmod (s.size : Int) 2 = 0 := by rw [Int.tmod_eq_emod_of_nonneg (by omega)]; exact hr1
      obtain ⟨i0, hi, hz0, hz1, hz2⟩ := info_parts info5s
      obtain ⟨H, hH⟩ : ∃ H, s.size / 2 = H := ⟨_, rfl⟩
      have hd2 : Int.tdiv (s.size : Int) 2 = (H : Int) := by rw [Int.tdiv_eq_ediv_of_nonneg (by omega)]; omega
      obtain ⟨B, hB⟩ : ∃ B, w.heap.size = B := ⟨_, rfl⟩
      have HB : Hid (w.heap.size = B) := hB
      obtain ⟨R, hR⟩ : ∃ R, hexP (tl s) = R := ⟨_, rfl⟩
      rw [hR]
      have HR : Hid (hexP (tl s) = R) := hR
      have HG : Hid (Glob w) := hg
      clear hO hn0 hg hR
      rw [hB]
      go_enter Tryd.func60, Tryd.ntmps60
      go_wp2_with (first | (at_make; refine wpList_make_own _ rfl _ _ 22 rfl B 5 i0 (.int .u8 0) 1 Tryd.underlying22 hi hz0 hz1 .i64 .i64 _ H rfl rfl ?_ ?_ ?_ ?_ ?_) | fail)
      · rfl
      · rw [hz2]; omega
      · unfold maxLen; omega
      · omega
      · intro w1 hown1 hgrow1
        have HE1 : Hid (Below B w w1) := (Below.refl B w).grown hgrow1 (by omega) (by simp)
        have HO1 : Hid (w1.ownsRow B 5 1 (.slice (some ⟨B, 0, none⟩) 0 H) 0 []) := hown1
        clear hown1 hgrow1 hB hd2 hr2 hr1
        go_wp2
        go_loopw [4, 5] (fun bv iv wr => HxI w B s R bv iv wr) (fun _ i _ => s.size - (intOf i).toNat)
        case atStart => exact ⟨0, [], by omega, rfl, rfl, HO1.out, HE1.out, by have := HR.out; simp [this]⟩
        case round =>
          obtain ⟨k, acc, hk, hak, rfl, hown, hbe, hmap⟩ := hrel
          clear HO1 HE1
          obtain ⟨ao, cap, rfl⟩ := own_slice hown
          have HO : Hid (wr.ownsRow B 5 1 (.slice ao acc.length cap) acc.length (Lib.byteCells acc)) := hown
          have HE : Hid (Below B w wr) := hbe
          have HM : Hid ((hexP ((tl s).drop (2 * k))).map (fun l => acc ++ l) = R) := hmap
          have hbs : B ≤ wr.heap.size := by have := HE.out.size; have := HB.out; omega
          have HAK : Hid (acc.length = k) := hak
          have hac : acc.length ≤ 16000000 := by omega
          clear hown hbe hmap hak
          obtain ⟨i, hi2⟩ : ∃ i, 2 * k = i := ⟨_, rfl⟩
          rw [hi2] at hk HM
          simp only [hi2]
          by_cases hin : i < s.size
          · have hi3 : i + 2 ≤ s.size := by omega
            have hes : (s.extract i (i + 2)).size = 2 := by rw [size_between s hi3]; omega
            have hgl : Glob wr := HG.out.on (HB.out ▸ HE.out)
            have hpu := pu67 wr (s.extract i (i + 2)) hes hgl
            have hdr : (tl s).drop i = s[i] :: s[i + 1] :: (tl s).drop (i + 2) := by
              rw [List.drop_eq_getElem_cons (by rw [tl_len]; exact hin), List.drop_eq_getElem_cons (by rw [tl_len]; omega), tl_get s i hin, tl_get s (i + 1) (by omega)]
            have hte : tl (s.extract i (i + 2)) = [s[i], s[i + 1]] := by
              rw [tl_extract, List.drop_take, hdr]
              have : i + 2 - i = 2 := by omega
              rw [this]; rfl
            rw [hte] at hpu
            have hG := HM.out
            rw [hdr] at hG
            have hG2 : ((match hvs [s[i], s[i + 1]] 0 with
              | none => none
              | some n => (hexP ((tl s).drop (i + 2))).map fun l => UInt8.ofNat n :: l) : Option (List UInt8)).map (fun l => acc ++ l) = R := hG
            obtain ⟨S, hS⟩ : ∃ S, s.extract i (i + 2) = S := ⟨_, rfl⟩
            have HGo : Hid (Glob wr) := hgl
            rw [hS] at hpu
            clear hdr hte hG hes hgl
            go_wp2_with (go_at_call 67; refine StopF.out ?_)
            refine StopF.mk (hpu.mono ?_)
            rintro e W2 ⟨hr, hb2⟩
            clear hpu hS
            have HE2 : Hid (Below B w W2) := HE.out.trans (hb2.mono hbs)
            have HO2 : Hid (W2.ownsRow B 5 1 (.slice ao acc.length cap) acc.length (Lib.byteCells acc)) := ownsRow_below HO.out hb2 (Nat.le_refl _)
            have hbs2 : B ≤ W2.heap.size := by have := hb2.size; omega
            clear hb2
            rcases hr with ⟨n, h1, h2, rfl⟩ | ⟨h1, q, rfl⟩
            · rw [h1] at hG2
              have HG2 : Hid ((hexP ((tl s).drop (i + 2))).map (fun l => (acc ++ [UInt8.ofNat n]) ++ l) = R) := by
                show Option.map _ _ = _
                rw [← hG2]
                simp only [Option.map_map]
                congr 1
                funext l
                simp
              have w8 : IntKind.u8.wrap (n : Int) = (n : Int) := by simp [IntKind.wrap, IntKind.bits, IntKind.signed]; omega
              clear hG2 h1
              go_wp2_with (first | (at_builtin; refine wpList_append_lies _ rfl _ _ 22 rfl B 5 i0 _ 1 1 Tryd.underlying22 hi hz0 hz1 hz2 rfl (by decide) (.slice ao acc.length cap) acc.length (Lib.byteCells acc) rfl (World.ownsRow.alloc HO2.out _) ⟨W2.heap.size, 0, none⟩ 1 1 [.int .u8 (n : Int)] rfl rfl (cell_one_new _ _ _) (by intro u hu; simp at hu; subst hu; rfl) (by decide) (by unfold maxLen; omega) (by omega) (by simp; omega) (W2.heap.size + 1) (by simp) ?_) | fail)
              intro g cp W3 hown3 hgrow3 hat3 hlt3
              have HE3 : Hid (Below B w W3) := (HE2.out.alloc hbs2 _).grown hgrow3 (by simp; omega) (fun j hj => (HO2.out.lt j hj).1)
              have HO3 : Hid (W3.ownsRow B 5 1 (.slice (some ⟨g, 0, none⟩) (acc.length + 1) cp) (acc ++ [UInt8.ofNat n]).length (Lib.byteCells (acc ++ [UInt8.ofNat n]))) := by
                show World.ownsRow _ _ _ _ _ _ _
                rw [Lib.byteCells_append, List.length_append]
                have : Lib.byteCells [UInt8.ofNat n] = [.int .u8 (n : Int)] := by simp [Lib.byteCells, UInt8.toNat_ofNat', Nat.mod_eq_of_lt h2]
                rw [this]
                exact hown3
              clear hown3 hgrow3 hat3 hlt3
              go_wp2
              go_roundw
              case rel => exact ⟨k + 1, acc ++ [UInt8.ofNat n], by omega, by simp [HAK.out], by rw [show 2 * (k + 1) = i + 2 by omega]; go_num, HO3.out, HE3.out, by rw [show 2 * (k + 1) = i + 2 by omega]; exact HG2.out⟩
              case measure => simp [intOf]; omega
            · rw [h1] at hG2
              have HGn : Hid (R = none) := hG2.symm
              clear hG2 h1
              go_wp2
              exact bodyPost_ret (v := .tuple #[.string { data := #[] }, .bool false]) (by simp [results, Tryd.results60, go_sem]) rfl ⟨.inr ⟨HGn.out, rfl⟩, HE2.out⟩
          · have hie : i = s.size := by omega
            have hG := HM.out
            rw [hie, ← tl_len, List.drop_length] at hG
            have HG2 : Hid (R = some acc) := by show R = _; rw [← hG]; simp [hexP]
            have hcv := (own_bs HO.out).conv (cap := cap)
            have hz : (bs1 acc).size = acc.length := by rw [← tl_len, tl_bs1]
            rw [hz] at hcv
            clear hG hie
            go_wp2
            exact bodyPost_ret (v := .tuple #[.string (bs1 acc), .bool true]) (by simp [results, Tryd.results60, go_sem]) rfl ⟨.inl ⟨acc, HG2.out, rfl⟩, HE.out⟩
end Go.Proofs.YtnheeenkdjmhoaaDoor
