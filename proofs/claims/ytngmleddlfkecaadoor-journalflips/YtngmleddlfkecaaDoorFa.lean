import Derived.Test.YtngmleddlfkecaaDoorL
namespace Go.Proofs.YtngmleddlfkecaaDoor
open Go Go.Proofs Go.RowKit

/-- The bytes of a number, the low one first. -/
def dig : Nat → Nat → List Nat
  | 0, _ => []
  | n + 1, v => v % 256 :: dig n (v / 256)

theorem dig_length : ∀ n v, (dig n v).length = n
  | 0, _ => rfl
  | n + 1, v => by simp [dig, dig_length n]

theorem dig_lt : ∀ n v, ∀ x ∈ dig n v, x < 256
  | 0, _, x, h => by simp [dig] at h
  | n + 1, v, x, h => by
    simp only [dig, List.mem_cons] at h
    rcases h with rfl | h
    · exact Nat.mod_lt _ (by decide)
    · exact dig_lt n _ x h

theorem dig_snoc : ∀ k v, dig (k + 1) v = dig k v ++ [v / 256 ^ k % 256]
  | 0, v => by simp [dig]
  | k + 1, v => by
    rw [dig, dig_snoc k, dig]
    simp [Nat.div_div_eq_div_mul, Nat.pow_succ, Nat.mul_comm]

theorem cell_four {w : World} {x0 x1 x2 x3 : Value} {t : TypeId} : ∀ j u, [x0, x1, x2, x3][j]? = some u → (w.alloc (.cells #[x0, x1, x2, x3] t)).cell? ((⟨w.heap.size, 0, none⟩ : Addr).add j) = some u := by
  intro j u hj
  match j, hj with
  | 0, hj => simp at hj; subst hj; simp [Addr.add]
  | 1, hj => simp at hj; subst hj; simp [Addr.add]
  | 2, hj => simp at hj; subst hj; simp [Addr.add]
  | 3, hj => simp at hj; subst hj; simp [Addr.add]
  | n + 4, hj => simp at hj

set_option maxRecDepth 100000 in
/-- add32, where there is room. -/
theorem add32_any {w : World} {B g cap : Nat} {bs : List Nat} (h : Own w B (.slice (some ⟨g, 0, none⟩) bs.length cap) bs) (hB : B ≤ w.heap.size) (hc : bs.length + 4 ≤ cap) (n : Nat) (hn : n < 4294967296) :
    Calls Tryd.prog 43 #[.slice (some ⟨g, 0, none⟩) bs.length cap, .int .u32 (n : Int)] w fun e w' => e = .returned (.slice (some ⟨g, 0, none⟩) (bs.length + 4) cap) ∧ Own w' B (.slice (some ⟨g, 0, none⟩) (bs.length + 4) cap) (bs ++ dig 4 n) ∧ Below B w w' := by
  obtain ⟨i0, hi, hz0, hz1, hz2⟩ := info_parts Tryd.info5
  have hgB : B ≤ g := (h.1.lt g rfl).1
  obtain ⟨k, hk⟩ : ∃ k, bs.length = k := ⟨_, rfl⟩
  have HK : Hid (bs.length = k) := hk
  have hown : w.ownsRow B 5 1 (.slice (some ⟨g, 0, none⟩) k cap) k (u8s bs) := by rw [← hk]; exact h.1
  have HL : Hid (∀ x ∈ bs, x < 256) := h.2
  rw [hk] at hc ⊢
  clear h hk
  go_enter Tryd.func43, Tryd.ntmps43
  go_wp2_with (first | (at_builtin; refine wpList_append_fits _ rfl _ _ 22 rfl B 5 i0 1 Tryd.underlying22 hi hz1 g k cap _ rfl (hown.alloc _) ⟨w.heap.size, 0, none⟩ 4 4 (u8s (dig 4 n)) rfl ?_ ?_ ?_ ?_ ?_) | fail)
  · rw [u8s_length, dig_length]
  · have e : u8s (dig 4 n) = [.int .u8 ((n : Int) % 256), .int .u8 ((n : Int) / 256 % 256), .int .u8 ((n : Int) / 65536 % 256), .int .u8 ((n : Int) / 16777216)] := by
      simp only [u8s, dig, List.map_cons, List.map_nil, List.cons.injEq, Value.int.injEq, true_and, and_true]
      omega
    rw [e]
    exact cell_four
  · exact u8s_one _
  · omega
  · intro w' hown' hgrow
    have hbe : Below B w w' := ((Below.refl B w).alloc hB _).grown hgrow (by simp; omega) (fun j hj => by cases hj; exact hgB)
    clear hgrow hown
    go_wp2
    go_ret
    refine ⟨rfl, ⟨?_, ?_⟩, hbe⟩
    · rw [List.length_append, dig_length, HK.out, u8s_append]
      exact hown'
    · intro x hx
      rcases List.mem_append.1 hx with hx | hx
      · exact HL.out x hx
      · exact dig_lt 4 n x hx

set_option maxRecDepth 100000 in
/-- The document's number. -/
theorem number_any (w : World) (v n : Nat) (hv : v < 18446744073709551616) (hn : n ≤ 8) :
    Calls Tryd.prog 41 #[.int .u64 (v : Int), .int .i64 (n : Int)] w fun e w' => ∃ v', e = .returned v' ∧ Own w' w.heap.size v' (dig n v) ∧ Below w.heap.size w w' := by
  obtain ⟨i0, hi, hz0, hz1, hz2⟩ := info_parts Tryd.info5
  obtain ⟨B, hB⟩ : ∃ B, B = w.heap.size := ⟨_, rfl⟩
  rw [← hB]
  have HB : Hid (B = w.heap.size) := hB
  clear hB
  go_enter Tryd.func41, Tryd.ntmps41
  go_wp2
  go_loopw [0, 5, 6] (fun x b i wr => ∃ k u : Nat, k ≤ n ∧ i = .int .i64 k ∧ x = .int .u64 (u : Int) ∧ Hid (u = v / 256 ^ k) ∧ u < 18446744073709551616 ∧ wr.ownsRow B 5 1 b k (u8s (dig k v)) ∧ Below B w wr) (fun _ _ i _ => n - (intOf i).toNat)
  case atStart => exact ⟨0, v, Nat.zero_le _, rfl, rfl, by simp [Hid], hv, World.ownsRow_nil _ _ _ _, Below.refl _ _⟩
  case round =>
    obtain ⟨k, u, hk, rfl, rfl, HU, hu, hown, hbe⟩ := hrel
    have HBr : Hid (B ≤ wr.heap.size) := by have := hbe.size; rw [HB.out]; exact this
    by_cases hkn : k < n
    · go_wp2_with (first | (at_builtin; refine wpList_append_own _ rfl _ _ 22 rfl B 5 i0 (.int .u8 0) 1 1 Tryd.underlying22 hi hz0 hz1 hz2 rfl (by decide) _ _ _ rfl (hown.alloc _) ⟨wr.heap.size, 0, none⟩ 1 1 [.int .u8 ((u : Int) % 256)] rfl rfl ?_ ?_ ?_ ?_ ?_ ?_) | fail)
      · exact cell_one_new _ _ _
      · intro u hu; simp at hu; subst hu; rfl
      · unfold maxLen; omega
      · omega
      · have := HBr.out; simp; omega
      · intro v' w1 hown' hgrow _
        have hbe' : Below B w w1 := (hbe.alloc HBr.out _).grown hgrow (by have := HBr.out; simp; omega) (fun j hj => (hown.lt j hj).1)
        have he : u8s (dig k v) ++ [.int .u8 ((u : Int) % 256)] = u8s (dig (k + 1) v) := by
          rw [dig_snoc, u8s_append, ← HU.out]
          simp [u8s]
        rw [he] at hown'
        have HU2 : Hid (u / 256 = v / 256 ^ (k + 1)) := by
          show _ = _
          rw [HU.out, Nat.div_div_eq_div_mul, Nat.pow_succ]
        clear hgrow hown he
        go_wp2
        go_roundw
        case rel => exact ⟨k + 1, u / 256, by omega, by go_num, by go_num, HU2, by omega, hown', hbe'⟩
        case measure => simp [intOf]; omega
    · have hkn' : k = n := by omega
      subst hkn'
      go_wp2
      go_ret
      refine ⟨_, rfl, ⟨?_, dig_lt _ _⟩, hbe⟩
      rw [dig_length]
      exact hown
end Go.Proofs.YtngmleddlfkecaaDoor
