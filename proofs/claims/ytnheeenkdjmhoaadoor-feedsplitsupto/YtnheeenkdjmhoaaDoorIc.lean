import Derived.Test.YtnheeenkdjmhoaaDoorIb
import Derived.Laws.IdiomStrings
/-
  DERIVED. The header's fields, the document's.
-/
namespace Go.Proofs.YtnheeenkdjmhoaaDoor
open Go Go.Proofs Go.RowKit

theorem carryC {W W' : World} {a : Addr} {v : Value} (h : W.cell? a = some v) (hb : Below W.heap.size W W') : W'.cell? a = some v := (hb.cell (cell_lt h)).trans h

def headR (f : UInt8) (fs : List (List UInt8)) : List (List UInt8) := fs.getD 0 [] :: [f] :: fs.drop 1
def HdI (w : World) (B : Nat) (f : UInt8) (fs : List (List UInt8)) (ov iv : Value) (wr : World) : Prop :=
  ∃ (k : Nat) (acc : List (List UInt8)), 1 ≤ k ∧ k ≤ fs.length ∧ iv = .int .i64 k ∧ wr.ownsRow (B + 1) 9 1 ov acc.length (strs acc) ∧ Below B w wr ∧ acc = fs.getD 0 [] :: [f] :: (fs.take k).drop 1

set_option maxRecDepth 100000 in
set_option maxHeartbeats 4000000 in
theorem headR_any (w : World) (g0 c0 b0 : Nat) (fs : List (List UInt8)) (f : UInt8) (hfs : 0 < fs.length) (hfl : fs.length ≤ 16000001) (ho : w.ownsRow b0 9 1 (.slice (some ⟨g0, 0, none⟩) fs.length c0) fs.length (strs fs)) : Calls Tryd.prog 31 #[.slice (some ⟨g0, 0, none⟩) fs.length c0, .int .u8 (f.toNat : Nat)] w fun e w' => ∃ v, e = .returned v ∧ w'.ownsRow (w.heap.size + 1) 9 1 v (headR f fs).length (strs (headR f fs)) ∧ Below w.heap.size w w' := by
  obtain ⟨i0, hi, hz0, hz1, hz2⟩ := info_parts info9s
  have hcell : ∀ k, k < fs.length → w.cell? ⟨g0, k, none⟩ = some (.string (bs1 (fs.getD k []))) := by
    intro k hk
    have := ho.cellAt k (by omega)
    rw [this, strs, List.getElem?_map, List.getElem?_eq_getElem hk, List.getD_eq_getElem?_getD, List.getElem?_eq_getElem hk]; rfl
  have HC : Hid (∀ k, k < fs.length → w.cell? ⟨g0, k, none⟩ = some (.string (bs1 (fs.getD k [])))) := hcell
  have hc0 := hcell 0 hfs
  obtain ⟨B, hB⟩ : ∃ B, w.heap.size = B := ⟨_, rfl⟩
  have HB : Hid (w.heap.size = B) := hB
  obtain ⟨y, hy⟩ : ∃ y, f.toNat = y := ⟨_, rfl⟩
  have HY : Hid (f.toNat = y) := hy
  have hcv : (convert 22 9 (.slice (some ⟨B, 0, none⟩) 1 1)).run Tryd.prog (w.drew.alloc (.cells #[.int .u8 (y : Int)] 5)) = .ok (.string (bs1 [f])) (w.drew.alloc (.cells #[.int .u8 (y : Int)] 5)) := by
    have h := run_convert_bytes_back (P := Tryd.prog) (w.drew.alloc (.cells #[.int .u8 (y : Int)] 5)) 22 9 5 ⟨B, 0, none⟩ 1 [f] Tryd.underlying22 Tryd.underlying5 Tryd.underlying9 (fun j hj => ?_)
    · exact h
    · have hj0 : j = 0 := by simp at hj; omega
      subst hj0
      rw [← hB, ← hy]
      have h1 : (w.drew.alloc (.cells #[.int .u8 (f.toNat : Int)] 5)).heap[w.heap.size]? = some (.cells #[.int .u8 (f.toNat : Int)] 5 (0, 0)) := heap_alloc_new w.drew _
      rw [add_at, Lib.cell_of_heap h1]
      rfl
  have hcv : (convert 22 9 (.slice (some ⟨B, 0, none⟩) 1 1)).run Tryd.prog (w.alloc (.cells #[.int .u8 (y : Int)] 5)).drew = .ok (.string (bs1 [f])) (w.alloc (.cells #[.int .u8 (y : Int)] 5)).drew := hcv
  rw [hy, hB]
  obtain ⟨F, hF⟩ : ∃ F, bs1 [f] = F := ⟨_, rfl⟩
  obtain ⟨F0, hF0⟩ : ∃ F, bs1 (fs.getD 0 []) = F := ⟨_, rfl⟩
  rw [hF] at hcv
  rw [hF0] at hc0
  have h0i : (0 : Int) < (fs.length : Int) := by omega
  have hc1 : (w.alloc (.cells #[.int .u8 (y : Int)] 5)).drew.cell? ⟨g0, 0, none⟩ = some (.string F0) := carryC hc0 (((Below.refl _ w).alloc (Nat.le_refl _) _).drew)
  have hc2 : (w.alloc (.cells #[.int .u8 (y : Int)] 5)).cell? ⟨g0, 0, none⟩ = some (.string F0) := hc1
  clear hcell hy
  go_enter Tryd.func31, Tryd.ntmps31
  go_wp2
  go_region
  obtain ⟨W1, hW1⟩ : ∃ W1, ((w.alloc (Obj.cells #[Value.int IntKind.u8 (y : Int)] 5)).alloc (Obj.cells #[Value.string F0, Value.string F] 9)).drew = W1 := ⟨_, rfl⟩
  have HE1 : Hid (Below B w W1) := by rw [← hW1, ← hB]; exact (((Below.refl _ w).alloc (Nat.le_refl _) _).alloc (by simp) _).drew
  have HO1 : Hid (W1.ownsRow (B + 1) 9 1 (.slice (some ⟨B + 1, 0, none⟩) 2 2) 2 (strs [fs.getD 0 [], [f]])) := by
    show World.ownsRow _ _ _ _ _ _ _
    have e4 : strs [fs.getD 0 [], [f]] = [.string F0, .string F] := by rw [← hF, ← hF0]; rfl
    have e5 : (w.alloc (Obj.cells #[Value.int IntKind.u8 (y : Int)] 5)).heap.size = B + 1 := by rw [← hB]; simp
    rw [e4, ← hW1]
    refine ⟨by simp, .inr ⟨B + 1, 2, #[.string F0, .string F], rfl, Nat.le_refl _, ?_, Nat.le_refl _, by decide, rfl, rfl⟩⟩
    have := heap_alloc_new (w.alloc (Obj.cells #[Value.int IntKind.u8 (y : Int)] 5)) (Obj.cells #[Value.string F0, Value.string F] 9)
    rw [e5] at this
    exact this
  rw [hW1]
  clear hW1 hcv hc0 hc1 hc2 hF hF0 hB
  go_wp2
  go_loopw [5, 6] (fun ov iv wr => HdI w B f fs ov iv wr) (fun _ i _ => fs.length - (intOf i).toNat)
  case atStart =>
    refine ⟨1, [fs.getD 0 [], [f]], Nat.le_refl _, hfs, rfl, HO1.out, HE1.out, ?_⟩
    have : (fs.take 1).drop 1 = [] := List.drop_eq_nil_of_le (by rw [List.length_take]; omega)
    rw [this]
  case round =>
    obtain ⟨k, acc, hk1, hk, rfl, hown, hbe, hacc⟩ := hrel
    obtain ⟨ao, cap, rfl⟩ := own_slice hown
    have HO : Hid (wr.ownsRow (B + 1) 9 1 (.slice ao acc.length cap) acc.length (strs acc)) := hown
    have HE : Hid (Below B w wr) := hbe
    have HA : Hid (acc = fs.getD 0 [] :: [f] :: (fs.take k).drop 1) := hacc
    have hbs : B + 1 ≤ wr.heap.size := by
      obtain ⟨g, c, hv⟩ := owns_pos HO.out (by rw [hacc]; simp)
      simp only [Value.slice.injEq] at hv
      have := HO.out.lt g (by rw [hv.1]; rfl)
      omega
    have hal : acc.length ≤ 16000010 := by rw [hacc]; simp; omega
    clear hown hbe hacc HO1 HE1
    by_cases hkn : k < fs.length
    · have hc : wr.cell? ⟨g0, k, none⟩ = some (.string (bs1 (fs.getD k []))) := carryC (HC.out k hkn) (HB.out ▸ HE.out)
      obtain ⟨q, hq⟩ : ∃ q, bs1 (fs.getD k []) = q := ⟨_, rfl⟩
      rw [hq] at hc
      have HQ : Hid (strs [fs.getD k []] = [.string q]) := by show strs _ = _; rw [← hq]; rfl
      clear hq
      go_wp2_with (first | (at_builtin; refine wpList_append_lies _ rfl _ _ 38 rfl (B + 1) 9 i0 _ 1 16 Tryd.underlying38 hi hz0 hz1 hz2 rfl (by decide) (.slice ao acc.length cap) acc.length (strs acc) rfl (World.ownsRow.alloc HO.out _) ⟨wr.heap.size, 0, none⟩ 1 1 [.string q] rfl rfl (cell_one_new _ _ _) (by intro u hu; simp at hu; subst hu; rfl) (by decide) (by unfold maxLen; omega) (by omega) (by simp; omega) (wr.heap.size + 1) (by simp) ?_) | fail)
      intro g cp2 W2 hown2 hgrow2 hat2 hlt2
      have HE2 : Hid (Below B w W2) := (HE.out.alloc (by omega) _).grown hgrow2 (by simp; omega) (fun j hj => by have := (HO.out.lt j hj).1; omega)
      have HO2 : Hid (W2.ownsRow (B + 1) 9 1 (.slice (some ⟨g, 0, none⟩) (acc.length + 1) cp2) (acc ++ [fs.getD k []]).length (strs (acc ++ [fs.getD k []]))) := by
        show World.ownsRow _ _ _ _ _ _ _
        rw [strs_app, List.length_append, HQ.out]
        exact hown2
      clear hown2 hgrow2 hat2 hlt2
      go_wp2
      go_roundw
      case rel =>
        refine ⟨k + 1, acc ++ [fs.getD k []], by omega, by omega, by go_num, HO2.out, HE2.out, ?_⟩
        have e1 : fs.take (k + 1) = fs.take k ++ [fs.getD k []] := by
          rw [List.take_succ_eq_append_getElem hkn, List.getD_eq_getElem?_getD, List.getElem?_eq_getElem hkn]; rfl
        rw [HA.out, e1, List.drop_append_of_le_length (by rw [List.length_take]; omega)]
        simp
      case measure => simp [intOf]; omega
    · have hke : k = fs.length := by omega
      have HK : Hid (acc = headR f fs) := by
        show acc = _
        rw [HA.out, hke, List.take_length]; rfl
      clear hke
      go_wp2
      go_ret
      exact ⟨_, rfl, HK.out ▸ HO.out, HE.out⟩
end Go.Proofs.YtnheeenkdjmhoaaDoor
