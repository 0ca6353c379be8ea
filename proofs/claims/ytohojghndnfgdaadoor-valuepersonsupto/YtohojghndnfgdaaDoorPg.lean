import Derived.Test.YtohojghndnfgdaaDoorPf
/-
  DERIVED. The document's pieces of a text.
-/
namespace Go.Proofs.YtohojghndnfgdaaDoor
open Go Go.Proofs Go.RowKit

def strC (l : List ByteArray) : List Value := l.map .string
theorem strC_one (l : List ByteArray) : ∀ u ∈ strC l, u.oneCell' = true := by
  intro u hu
  obtain ⟨x, _, rfl⟩ := List.mem_map.1 hu
  rfl
theorem strC_append (l r : List ByteArray) : strC (l ++ r) = strC l ++ strC r := List.map_append
theorem strInfo : (Tryd.prog.info? 9).map (fun i => (i.zero, i.size, i.bytes)) = some (some (.string ⟨#[]⟩), 1, 16) := by kernel_rfl

set_option maxRecDepth 100000 in
set_option maxHeartbeats 2000000 in
theorem cut12_any (w : World) (s : ByteArray) (hs : s.size ≤ 2097152) (c : Nat) :
    Calls Tryd.prog 12 #[.string s, .int .u8 (c : Int)] w fun e w' => ∃ v, e = .returned v ∧ w'.ownsRow w.heap.size 9 1 v (cx s c 0).length (strC (cx s c 0)) ∧ Below w.heap.size w w' := by
  obtain ⟨i0, hi, hz0, hz1, hz2⟩ := info_parts strInfo
  obtain ⟨B, hB⟩ : ∃ B, w.heap.size = B := ⟨_, rfl⟩
  have HE : Hid ([] ++ cx s c 0 = cx s c 0) := rfl
  generalize hEE : cx s c 0 = E at HE ⊢
  rw [hB]
  have HE0 : Hid ([] ++ cx s c 0 = E) := by show _ = _; rw [hEE]; rfl
  clear hEE HE
  go_enter Tryd.func12, Tryd.ntmps12
  go_wp2
  go_loopg [5, 6, 7] s.size (fun g u s6 s7 wr => ∃ (i fr : Nat) (acc : List ByteArray), s6 = .int .i64 (fr : Int) ∧ s7 = .int .i64 (i : Int) ∧ g + i = s.size ∧ fr ≤ i ∧ Hid (wr.ownsRow B 9 1 u acc.length (strC acc)) ∧ Hid (Below B w wr) ∧ Hid (acc ++ cx s c fr = E) ∧ Hid (∀ j, fr ≤ j → j < i → (s.get! j).toNat ≠ c) ∧ acc.length ≤ i)
  case atStart => exact ⟨0, 0, [], rfl, rfl, by omega, by omega, World.ownsRow_nil _ _ _ _, by rw [← hB]; exact Below.refl _ _, HE0, fun j _ h => absurd h (Nat.not_lt_zero _), by show 0 ≤ 0; omega⟩
  case round =>
    clear HE0
    obtain ⟨i, fr, acc, rfl, rfl, hg, hfi, HO, HBw, HA, HJ, hal⟩ := hrel
    have hBs : B ≤ wr.heap.size := by rw [← hB]; exact HBw.out.size
    have h63 : acc.length + 1 ≤ maxLen := by unfold maxLen; omega
    have hby : (acc.length + 1) * 16 ≤ 140737488355328 := by omega
    by_cases hp : i < s.size
    · have hpI : (i : Int) < (s.size : Int) := by omega
      obtain ⟨b, hb⟩ : ∃ b, s[i].toNat = b := ⟨_, rfl⟩
      have hgb : (s.get! i).toNat = b := by rw [← get_get! s i hp, hb]
      by_cases hbc : b = c
      · have ebc : ((b : Int) == (c : Int)) = true := by rw [hbc]; simp
        have hfx : fx s c fr = i := fx_is s c _ fr i rfl hfi (by omega) (fun j h1 h2 => HJ.out j h1 h2) (fun _ => by rw [hgb]; exact hbc)
        have HA2 : Hid ((acc ++ [s.extract fr i]) ++ cx s c (i + 1) = E) := by
          have h1 := HA.out
          rw [cx_more s c fr (by omega), hfx] at h1
          show _ = _
          rw [List.append_assoc]
          exact h1
        obtain ⟨x, hx⟩ : ∃ x, s.extract fr i = x := ⟨_, rfl⟩
        rw [hx] at HA2
        have hb2 : B ≤ (wr.alloc (.cells #[.string x] 9)).heap.size := by simp; omega
        have b1 : (fr : Int) ≤ (i : Int) := by omega
        have b2 : (i : Int) ≤ (s.size : Int) := by omega
        clear HA HJ hfx hgb hbc
        go_wp2_with (at_builtin; refine Stop.mk ?_)
        refine Stop.out ?_
        refine (wpList_append_lies _ rfl (.tmp 19) (.tmp 24) 47 rfl B 9 i0 _ 1 16 Tryd.underlying47 hi hz0 hz1 hz2 rfl (by decide) u5 acc.length (strC acc) rfl (HO.out.alloc _) ⟨wr.heap.size, 0, none⟩ 1 1 [.string x] rfl rfl (World.news_of_block (heap_alloc_new wr _)) (strC_one [x]) (by decide) h63 hby hb2 _ rfl ?_)
        intro g4 cap4 W4 hown4 hgrow4 _ _
        have HB4 : Hid (Below B w W4) := (HBw.out.alloc hBs _).grown hgrow4 (by simp; omega) (fun k hk => (HO.out.lt k hk).1)
        have HO4 : Hid (W4.ownsRow B 9 1 (.slice (some ⟨g4, 0, none⟩) (acc.length + 1) cap4) (acc ++ [x]).length (strC (acc ++ [x]))) := by
          show World.ownsRow _ _ _ _ _ _ _
          rw [strC_append, List.length_append]
          exact hown4
        clear hown4 hgrow4
        go_wp2
        go_roundg (s.size - (i + 1))
        case measure => omega
        case rel => exact ⟨i + 1, i + 1, acc ++ [x], by first | rfl | simp, by first | rfl | simp, by omega, by omega, HO4, HB4, HA2, fun j h1 h2 => absurd h2 (by omega), by rw [List.length_append, List.length_singleton]; omega⟩
      · have ebc : ((b : Int) == (c : Int)) = false := by simpa using (by omega : ¬ (b : Int) = (c : Int))
        have HJ2 : Hid (∀ j, fr ≤ j → j < i + 1 → (s.get! j).toNat ≠ c) := fun j h1 h2 => by
          by_cases hj : j = i
          · subst hj; rw [hgb]; exact hbc
          · exact HJ.out j h1 (by omega)
        clear HJ hgb hbc
        go_wp2
        go_roundg (s.size - (i + 1))
        case measure => omega
        case rel => exact ⟨i + 1, fr, acc, rfl, by first | rfl | simp, by omega, by omega, HO, HBw, HA, HJ2, by omega⟩
    · have hpI : ¬ ((i : Int) < (s.size : Int)) := by omega
      have his : i = s.size := by omega
      have hfx : fx s c fr = s.size := fx_is s c _ fr s.size rfl (by omega) (Nat.le_refl _) (fun j h1 h2 => HJ.out j h1 (by omega)) (fun h => absurd h (Nat.lt_irrefl _))
      have hA := HA.out
      rw [cx_last s c fr (by omega)] at hA
      obtain ⟨x, hx⟩ : ∃ x, s.extract fr s.size = x := ⟨_, rfl⟩
      rw [hx] at hA
      have hb2 : B ≤ (wr.alloc (.cells #[.string x] 9)).heap.size := by simp; omega
      have b1 : (fr : Int) ≤ (s.size : Int) := by omega
      subst hA
      clear HA HJ hfx his
      go_wp2_with (at_builtin; refine Stop.mk ?_)
      refine Stop.out ?_
      refine (wpList_append_lies _ rfl (.tmp 28) (.tmp 32) 47 rfl B 9 i0 _ 1 16 Tryd.underlying47 hi hz0 hz1 hz2 rfl (by decide) u5 acc.length (strC acc) rfl (HO.out.alloc _) ⟨wr.heap.size, 0, none⟩ 1 1 [.string x] rfl rfl (World.news_of_block (heap_alloc_new wr _)) (strC_one [x]) (by decide) h63 hby hb2 _ rfl ?_)
      intro g4 cap4 W4 hown4 hgrow4 _ _
      have HB4 : Hid (Below B w W4) := (HBw.out.alloc hBs _).grown hgrow4 (by simp; omega) (fun k hk => (HO.out.lt k hk).1)
      have HO4 : Hid (W4.ownsRow B 9 1 (.slice (some ⟨g4, 0, none⟩) (acc.length + 1) cap4) (acc ++ [x]).length (strC (acc ++ [x]))) := by
        show World.ownsRow _ _ _ _ _ _ _
        rw [strC_append, List.length_append]
        exact hown4
      clear hown4 hgrow4
      go_wp2
      go_ret
      exact ⟨_, rfl, HO4.out, HB4.out⟩
theorem own_str {w : World} {B : Nat} {v : Value} {l : List ByteArray} (h : w.ownsRow B 9 1 v l.length (strC l)) : ∃ a cap, v = .slice a l.length cap ∧ l.length ≤ cap ∧ (∀ k x, l[k]? = some x → ∃ g, a = some ⟨g, 0, none⟩ ∧ w.cell? ⟨g, k, none⟩ = some (.string x)) := by
  rcases h.2 with ⟨rfl, h0⟩ | ⟨g, cap, cur, rfl, hb, hg, hn, hm, hc, hx⟩
  · refine ⟨none, 0, by rw [h0], by omega, ?_⟩
    intro k x hk
    have := (List.getElem?_eq_some_iff.1 hk).1
    omega
  · refine ⟨some ⟨g, 0, none⟩, cap, rfl, hn, ?_⟩
    intro k x hk
    refine ⟨g, rfl, ?_⟩
    have := h.cells (g := g) rfl k (.string x) (by unfold strC; rw [List.getElem?_map, hk]; rfl)
    have hadd : (⟨g, 0, none⟩ : Addr).add k = ⟨g, k, none⟩ := by unfold Addr.add; split <;> simp_all
    rw [hadd] at this
    exact this
end Go.Proofs.YtohojghndnfgdaaDoor
