
import Derived.Test.YtegfgbcimlacbaaGreatDoorP
/-
  DERIVED. Lists of texts: lent, compared, told.
-/
namespace Go.Proofs.YtegfgbcimlacbaaGreatDoor
open Go Go.Proofs Go.RowKit

def strsC (T : List ByteArray) : List Value := T.map fun s => .string s
theorem strsC_len (T : List ByteArray) : (strsC T).length = T.length := by simp [strsC]
theorem strsC_take {T : List ByteArray} {k : Nat} {s : ByteArray} (h : T[k]? = some s) : strsC (T.take k) ++ [.string s] = strsC (T.take (k + 1)) := by
  rw [List.take_add_one, h]
  simp [strsC]
theorem strInfo : (Tryz.prog.info? 9).map (fun i => (i.zero, i.size, i.bytes)) = some (some (.string ⟨#[]⟩), 1, 16) := by kernel_rfl
theorem strs_one (T : List ByteArray) : ∀ u ∈ strsC T, u.oneCell' = true := by
  intro u hu
  unfold strsC at hu
  rw [List.mem_map] at hu
  obtain ⟨s, _, rfl⟩ := hu
  rfl

/-- A row of texts of our own is a list of texts. -/
theorem ts_own {w : World} {B n : Nat} {v : Value} {T : List ByteArray} (h : w.ownsRow B 9 1 v n (strsC T)) (hn : T.length = n) : TS w v T := by
  rcases h.2 with ⟨rfl, h0⟩ | ⟨g, cap, cur, hv, hg, hh, h1, h2, h3, h4⟩
  · exact ⟨none, 0, by rw [hn, h0], fun hp => by omega⟩
  · subst hv
    refine ⟨_, cap, by rw [hn], fun _ => ⟨g, 0, rfl, fun k s hk => ?_⟩⟩
    have hk2 : k < T.length := (List.getElem?_eq_some_iff.1 hk).1
    rw [Nat.zero_add, h.cellAt k (by omega)]
    unfold strsC
    rw [List.getElem?_map, hk]
    rfl

set_option maxRecDepth 100000 in
theorem same_yes {w : World} {v1 v2 : Value} {T : List ByteArray} (h1 : TS w v1 T) (h2 : TS w v2 T) (hl : T.length ≤ 140737488351232) :
    Calls Tryz.prog 13 #[v1, v2] w fun e w' => e = .returned (.bool true) ∧ Below w.heap.size w w' := by
  obtain ⟨a1, c1, rfl, f1⟩ := h1
  obtain ⟨a2, c2, rfl, f2⟩ := h2
  obtain ⟨n, hn⟩ : ∃ n, T.length = n := ⟨_, rfl⟩
  have HN : Hid (T.length = n) := hn
  rw [hn] at f1 f2 hl ⊢
  have F1 : Hid _ := f1
  have F2 : Hid _ := f2
  clear f1 f2 hn
  go_enter Tryz.func13, Tryz.ntmps13
  go_wp2
  go_loopw [5] (fun y wr => ∃ k : Nat, y = .int .i64 (k : Int) ∧ k ≤ n ∧ Hid (Below w.heap.size w wr)) (fun y _ => n - (intOf y).toNat)
  case atStart => exact ⟨0, rfl, by omega, Below.refl _ _⟩
  case round =>
    obtain ⟨k, rfl, hk, HBr⟩ := hrel
    by_cases hkn : k < n
    · have hkT : k < T.length := by rw [HN.out]; exact hkn
      obtain ⟨s, hs⟩ : ∃ s, T[k]? = some s := ⟨T[k], List.getElem?_eq_getElem hkT⟩
      obtain ⟨b1, o1, rfl, hc1⟩ := F1.out (by omega)
      obtain ⟨b2, o2, rfl, hc2⟩ := F2.out (by omega)
      have d1 := (HBr.out.cell (p := ⟨b1, o1 + k, none⟩) (cell_lt (hc1 k s hs))).trans (hc1 k s hs)
      have d2 := (HBr.out.cell (p := ⟨b2, o2 + k, none⟩) (cell_lt (hc2 k s hs))).trans (hc2 k s hs)
      have HBd : Hid (∀ m, Below w.heap.size w (wr.drewN m)) := fun m => below_drewN HBr.out m
      have hki : (k : Int) < (n : Int) := by omega
      clear hc1 hc2 hs hkT
      go_wp2
      go_quiet (fail)
      go_wp2
      exact ⟨⟨k + 1, by simp, by omega, HBd.out _⟩, by simp [intOf]; omega⟩
    · obtain rfl : k = n := by omega
      go_wp2
      go_ret
      exact ⟨rfl, HBr.out⟩

set_option maxRecDepth 100000 in
theorem lendT_any {w : World} {v : Value} {T : List ByteArray} (h : TS w v T) (hl : T.length ≤ 8796093021952) :
    Calls Tryz.prog 10 #[v] w fun e w' => e = .returned (.slice (some ⟨w.heap.size, 0, none⟩) T.length (T.length + 1)) ∧ w'.ownsRow w.heap.size 9 1 (.slice (some ⟨w.heap.size, 0, none⟩) (T.length + 1) (T.length + 1)) (T.length + 1) (strsC (T ++ [⟨#[109, 97, 114, 107]⟩])) ∧ Below w.heap.size w w' := by
  obtain ⟨ao, cap, rfl, hf⟩ := h
  obtain ⟨n, hn⟩ : ∃ n, T.length = n := ⟨_, rfl⟩
  have HN : Hid (T.length = n) := hn
  rw [hn] at hl hf ⊢
  have HF : Hid _ := hf
  clear hn hf
  obtain ⟨i0, hi, hz0, hz1, hz2⟩ := info_parts strInfo
  obtain ⟨B, hB⟩ : ∃ B, w.heap.size = B := ⟨_, rfl⟩
  rw [hB]
  have HB : Hid (B = w.heap.size) := hB.symm
  go_enter Tryz.func10, Tryz.ntmps10
  go_wp2_with (first | (at_make; refine wpList_make_own _ rfl _ _ 22 rfl B 9 i0 (.string ⟨#[]⟩) 1 Tryz.underlying22 hi hz0 hz1 .i64 .i64 _ (n + 1) rfl rfl ?_ ?_ ?_ ?_ ?_) | fail)
  · omega
  · rw [hz2]; omega
  · unfold maxLen; omega
  · omega
  · intro w1 hown1 hgrow1
    have hbe1 : Below B w w1 := (Below.refl B w).grown hgrow1 (by omega) (by simp)
    clear hgrow1
    go_wp2
    go_loopw [3, 4] (fun v i wr => ∃ k : Nat, k ≤ n ∧ i = .int .i64 k ∧ v = .slice (some ⟨B, 0, none⟩) k (n + 1) ∧ wr.ownsRow B 9 1 (.slice (some ⟨B, 0, none⟩) k (n + 1)) k (strsC (T.take k)) ∧ Below B w wr) (fun _ i _ => n - (intOf i).toNat)
    case atStart => exact ⟨0, Nat.zero_le _, rfl, rfl, hown1, hbe1⟩
    case round =>
      clear hown1 hbe1
      obtain ⟨k, hk, rfl, rfl, hown, hbe⟩ := hrel
      have HBr : Hid (B ≤ wr.heap.size) := by have := hbe.size; rw [HB.out]; exact this
      by_cases hkn : k < n
      · obtain ⟨b, off, rfl, hb⟩ := HF.out (by omega)
        have hkT : k < T.length := by rw [HN.out]; exact hkn
        obtain ⟨s, hs⟩ : ∃ s, T[k]? = some s := ⟨T[k], List.getElem?_eq_getElem hkT⟩
        have HST : Hid (T[k]? = some s) := hs
        have hcy := (hbe.cell (p := ⟨b, off + k, none⟩) (by rw [HB.out]; exact cell_lt (hb k s hs))).trans (hb k s hs)
        clear hs hkT
        go_wp2_with (first | (at_builtin; refine wpList_append_fits _ rfl _ _ 22 rfl B 9 i0 1 Tryz.underlying22 hi hz1 B k (n + 1) _ rfl (hown.alloc _) ⟨wr.heap.size, 0, none⟩ 1 1 [.string s] rfl rfl ?_ ?_ ?_ ?_) | fail)
        · exact cell_one_new _ _ _
        · intro u hu; simp at hu; subst hu; rfl
        · omega
        · intro w2 hown' hgrow
          have hbe' : Below B w w2 := (hbe.alloc HBr.out _).grown hgrow (by have := HBr.out; simp; omega) (fun j hj => by cases hj; omega)
          rw [strsC_take HST.out] at hown'
          clear hgrow hown hcy
          go_wp2
          go_roundw
          case rel => exact ⟨k + 1, by omega, by go_num, rfl, hown', hbe'⟩
          case measure => simp [intOf]; omega
      · have hkn' : k = n := by omega
        subst hkn'
        rw [← HN.out, List.take_length, HN.out] at hown
        go_wp2_with (first | (at_builtin; refine wpList_append_fits _ rfl _ _ 22 rfl B 9 i0 1 Tryz.underlying22 hi hz1 B k (k + 1) _ rfl (hown.alloc _) ⟨wr.heap.size, 0, none⟩ 1 1 [.string ⟨#[109, 97, 114, 107]⟩] rfl rfl ?_ ?_ ?_ ?_) | fail)
        · exact cell_one_new _ _ _
        · intro u hu; simp at hu; subst hu; rfl
        · omega
        · intro w2 hown' hgrow
          have hbe' : Below B w w2 := (hbe.alloc HBr.out _).grown hgrow (by have := HBr.out; simp; omega) (fun j hj => by cases hj; omega)
          have e : strsC T ++ [.string ⟨#[109, 97, 114, 107]⟩] = strsC (T ++ [⟨#[109, 97, 114, 107]⟩]) := by simp [strsC]
          rw [e] at hown'
          clear hgrow hown e
          go_wp2
          go_ret
          exact ⟨rfl, hown', hbe'⟩
end Go.Proofs.YtegfgbcimlacbaaGreatDoor
