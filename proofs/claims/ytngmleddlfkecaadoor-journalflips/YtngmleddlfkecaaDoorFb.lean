import Derived.Test.YtngmleddlfkecaaDoorFa
import Derived.Test.YtngmleddlfkecaaDoorQ
namespace Go.Proofs.YtngmleddlfkecaaDoor
open Go Go.Proofs Go.RowKit

def leadL (n : Nat) (body : List Nat) : List Nat := [165] ++ dig 4 n ++ dig 4 body.length
/-- A frame's bytes. -/
def frameL (n : Nat) (body : List Nat) : List Nat := leadL n body ++ dig 4 (crc (leadL n body)) ++ body ++ dig 4 (crc body)

theorem leadL_length (n : Nat) (body : List Nat) : (leadL n body).length = 9 := by simp [leadL, dig_length]
theorem frameL_length (n : Nat) (body : List Nat) : (frameL n body).length = 17 + body.length := by simp [frameL, leadL_length, dig_length]; omega

theorem At.under {w w' : World} {B b off : Nat} {bs : List Nat} (h : At w b off bs) (hb : Below B w w') (hB : b < B) : At w' b off bs :=
  ⟨fun k hk => (hb.cell (p := ⟨b, off + k, none⟩) hB).trans (h.1 k hk), h.2⟩
theorem Tab.under {w w' : World} {B : Nat} (h : Tab w) (hb : Below B w w') (hB : 0 < B) : Tab w' := fun i hi => (hb.cell (p := ⟨0, i, none⟩) hB).trans (h i hi)

theorem Own.at {w : World} {B g cap : Nat} {bs : List Nat} (h : Own w B (.slice (some ⟨g, 0, none⟩) bs.length cap) bs) : At w g 0 bs :=
  ⟨fun k hk => by rw [Nat.zero_add, h.1.cellAt (g := g) (cap := cap) k (by omega), u8s_get bs k hk], h.2⟩

theorem frameL_lt {n : Nat} {body : List Nat} (h : ∀ x ∈ body, x < 256) : ∀ x ∈ frameL n body, x < 256 := by
  intro x hx
  simp only [frameL, leadL, List.mem_append, List.mem_singleton] at hx
  rcases hx with ((((rfl | hx) | hx) | hx) | hx) | hx
  · decide
  · exact dig_lt _ _ x hx
  · exact dig_lt _ _ x hx
  · exact dig_lt _ _ x hx
  · exact h x hx
  · exact dig_lt _ _ x hx

set_option maxRecDepth 100000 in
set_option maxHeartbeats 1000000 in
/-- addFrame, where there is room. -/
theorem addFrame_any {w : World} {B g cap b off c : Nat} {bs body : List Nat} (h : Own w B (.slice (some ⟨g, 0, none⟩) bs.length cap) bs) (hB : B ≤ w.heap.size) (hB0 : 0 < B) (hA : At w b off body) (hbB : b < B) (hT : Tab w) (n : Nat) (hn : n < 4294967296) (hm : body.length ≤ 131072) (hmc : body.length ≤ c) (hc : bs.length + 17 + body.length ≤ cap) (hbs : bs.length ≤ 140737488351232) :
    Calls Tryd.prog 29 #[.slice (some ⟨g, 0, none⟩) bs.length cap, .int .u32 (n : Int), .slice (some ⟨b, off, none⟩) body.length c] w fun e w' => e = .returned (.slice (some ⟨g, 0, none⟩) (bs.length + (17 + body.length)) cap) ∧ Own w' B (.slice (some ⟨g, 0, none⟩) (bs.length + (17 + body.length)) cap) (bs ++ frameL n body) ∧ Below B w w' := by
  obtain ⟨i0, hi, hz0, hz1, hz2⟩ := info_parts Tryd.info5
  have hgB : B ≤ g := (h.1.lt g rfl).1
  obtain ⟨k, hk⟩ : ∃ k, bs.length = k := ⟨_, rfl⟩
  obtain ⟨m, hmm⟩ : ∃ m, body.length = m := ⟨_, rfl⟩
  have HK : Hid (bs.length = k) := hk
  have HM : Hid (body.length = m) := hmm
  have hown : w.ownsRow B 5 1 (.slice (some ⟨g, 0, none⟩) k cap) k (u8s bs) := by rw [← hk]; exact h.1
  have HL : Hid (∀ x ∈ bs, x < 256) := h.2
  have HA : Hid (At w b off body) := hA
  have HT : Hid (Tab w) := hT
  rw [hk, hmm] at hc
  rw [hk] at hbs
  rw [hmm] at hm hmc
  rw [hk, hmm]
  clear h hk hmm hA hT
  have hm32 : (m : Int) % 4294967296 = (m : Int) := by omega
  go_enter Tryd.func29, Tryd.ntmps29
  go_wp2_with (first | (at_builtin; refine wpList_append_fits _ rfl (.tmp 10) (.tmp 11) 22 rfl B 5 i0 1 Tryd.underlying22 hi hz1 g k cap _ rfl (hown.alloc _) ⟨w.heap.size, 0, none⟩ 1 1 [.int .u8 165] rfl rfl ?_ ?_ ?_ ?_) | fail)
  · exact cell_one_new _ _ _
  · intro u hu; simp at hu; subst hu; rfl
  · omega
  · intro w1 hown1 hgrow1
    have hb1 : Below B w w1 := ((Below.refl B w).alloc hB _).grown hgrow1 (by simp; omega) (fun j hj => by cases hj; exact hgB)
    have hO1 : Own w1 B (.slice (some ⟨g, 0, none⟩) (bs ++ [165]).length cap) (bs ++ [165]) := by
      refine ⟨?_, ?_⟩
      · rw [List.length_append, HK.out, u8s_append]; exact hown1
      · intro x hx
        rcases List.mem_append.1 hx with hx | hx
        · exact HL.out x hx
        · simp at hx; omega
    have c1 := add32_any hO1 (Nat.le_trans hB hb1.size) (by rw [List.length_append, HK.out]; simp; omega) n hn
    rw [List.length_append, HK.out] at c1
    clear hown hown1 hgrow1
    go_wp2_with (go_at_call 43; fail)
    refine c1.mono ?_
    rintro e w2 ⟨rfl, hO2, hb2⟩
    have e2 : (bs ++ [165] ++ dig 4 n).length = k + 5 := by simp [dig_length, HK.out]
    have c2 := add32_any (w := w2) (B := B) (g := g) (cap := cap) (bs := bs ++ [165] ++ dig 4 n) (by rw [e2]; exact hO2) (Nat.le_trans hB (hb1.trans hb2).size) (by rw [e2]; omega) m (by omega)
    rw [e2, show k + 5 + 4 = k + 9 from rfl] at c2
    clear c1 hO1
    go_wp2_with (go_at_call 43; fail)
    refine c2.mono ?_
    rintro e w3 ⟨rfl, hO3, hb3⟩
    have hb13 : Below B w w3 := (hb1.trans hb2).trans hb3
    have e3 : (bs ++ [165] ++ dig 4 n ++ dig 4 m).length = k + 9 := by simp [dig_length, HK.out]
    have hO3' : Own w3 B (.slice (some ⟨g, 0, none⟩) (bs ++ leadL n body).length cap) (bs ++ leadL n body) := by
      have : bs ++ leadL n body = bs ++ [165] ++ dig 4 n ++ dig 4 m := by rw [leadL, HM.out]; simp
      rw [this, e3]
      exact hO3
    have hA3 : At w3 g k (leadL n body) := by
      have := hO3'.at.drop k
      rw [List.drop_append, List.drop_eq_nil_of_le (by rw [HK.out]; exact Nat.le_refl _), HK.out, Nat.sub_self, List.drop_zero, List.nil_append, Nat.zero_add] at this
      exact this
    have c3 : Calls Tryd.prog 6 #[.slice (some ⟨g, k, none⟩) 9 (cap - k)] w3 fun e w' => e = .returned (.int .u32 (crc (leadL n body) : Nat)) ∧ w3 = w' := sum_any (V.mk hA3 (leadL_length n body) (by omega)) (HT.out.under hb13 hB0) (by rw [leadL_length]; omega)
    have hcl : crc (leadL n body) < 4294967296 := crc_lt _ hA3.2
    have c4 := add32_any hO3' (Nat.le_trans hB hb13.size) (by rw [List.length_append, HK.out, leadL_length]; omega) (crc (leadL n body)) hcl
    rw [List.length_append, HK.out, leadL_length] at c4
    have hck : ¬ cap = k := by omega
    clear c2 hO2 hO3 hA3 e2 e3
    rw [show k + 9 + 4 = k + 13 from rfl] at c4
    have hk9 : k + 9 - k = 9 := by omega
    go_wp2_with (first | (go_at_call 6; refine c3.mono ?_; rintro e w' ⟨rfl, rfl⟩) | (go_at_call 43; fail))
    refine c4.mono ?_
    rintro e w4 ⟨rfl, hO4, hb4⟩
    have hb14 : Below B w w4 := hb13.trans hb4
    obtain ⟨L4, hL4⟩ : ∃ L, bs ++ leadL n body ++ dig 4 (crc (leadL n body)) = L := ⟨_, rfl⟩
    have HL4 : Hid (bs ++ leadL n body ++ dig 4 (crc (leadL n body)) = L4) := hL4
    have hl4 : L4.length = k + 13 := by rw [← hL4]; simp [dig_length, leadL_length, HK.out]
    have HLl : Hid (L4.length = k + 13) := hl4
    rw [hL4] at hO4
    have hown4 : w4.ownsRow B 5 1 (.slice (some ⟨g, 0, none⟩) (k + 13) cap) (k + 13) (u8s L4) := by
      have := hO4.1
      rw [hl4] at this
      exact this
    have HL5 : Hid (∀ x ∈ L4, x < 256) := hO4.2
    have HA4 : Hid (At w4 b off body) := HA.out.under hb14 hbB
    clear c3 c4 hO3' hO4 hL4 hl4
    go_wp2_with (first | (at_builtin; refine wpList_append_fits _ rfl (.tmp 27) (.tmp 28) 22 rfl B 5 i0 1 Tryd.underlying22 hi hz1 g (k + 13) cap _ rfl hown4 ⟨b, off, none⟩ m c (u8s body) rfl ?_ ?_ ?_ ?_ ?_) | fail)
    · rw [u8s_length, HM.out, Nat.mul_one]
    · exact HA4.out.news
    · exact u8s_one _
    · omega
    · intro w5 hown5 hgrow5
      have hb5 : Below B w w5 := hb14.grown hgrow5 (Nat.le_trans hB hb14.size) (fun j hj => by cases hj; exact hgB)
      have hl5 : (L4 ++ body).length = k + 13 + m := by rw [List.length_append, HLl.out, HM.out]
      have hO5 : Own w5 B (.slice (some ⟨g, 0, none⟩) (L4 ++ body).length cap) (L4 ++ body) := by
        refine ⟨?_, ?_⟩
        · rw [hl5, u8s_append]
          exact hown5
        · intro x hx
          rcases List.mem_append.1 hx with hx | hx
          · exact HL5.out x hx
          · exact HA4.out.2 x hx
      have c5 : Calls Tryd.prog 6 #[.slice (some ⟨b, off, none⟩) m c] w5 fun e w' => e = .returned (.int .u32 (crc body : Nat)) ∧ w5 = w' := sum_any (V.mk (HA.out.under hb5 hbB) HM.out hmc) (HT.out.under hb5 hB0) (by rw [HM.out]; omega)
      have c6 := add32_any hO5 (Nat.le_trans hB hb5.size) (by rw [hl5]; omega) (crc body) (crc_lt _ HA4.out.2)
      rw [hl5] at c6
      clear hown5 hgrow5 hown4 hl5 hO5
      go_wp2_with (first | (go_at_call 6; refine c5.mono ?_; rintro e w' ⟨rfl, rfl⟩) | (go_at_call 43; fail))
      refine c6.mono ?_
      rintro e w6 ⟨rfl, hO6, hb6⟩
      go_wp2
      go_ret
      have el : L4 ++ body ++ dig 4 (crc body) = bs ++ frameL n body := by rw [← HL4.out]; simp [frameL]
      rw [el, show k + 13 + m + 4 = k + (17 + m) by omega] at hO6
      refine ⟨?_, hO6, hb5.trans hb6⟩
      rw [show k + (17 + m) = k + 13 + m + 4 by omega]
      rfl
end Go.Proofs.YtngmleddlfkecaaDoor
