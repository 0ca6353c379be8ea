import Derived.Test.YtfjcmniicbppdaaO
/-
  DERIVED. The document's Frame; frames that are the same.
-/
namespace Go.Proofs.Ytfjcmniicbppdaa
open Go Go.Proofs Go.RowKit Go.Deep

/-- A text's bytes. -/
def sn (s : ByteArray) : List Nat := s.data.toList.map (·.toNat)
theorem sn_length (s : ByteArray) : (sn s).length = s.size := by rw [sn, List.length_map, Array.length_toList]; rfl
theorem sn_lt (s : ByteArray) : ∀ x ∈ sn s, x < 256 := by
  intro x hx
  obtain ⟨b, _, rfl⟩ := List.mem_map.1 hx
  exact b.toNat_lt
theorem sn_cells (s : ByteArray) : Lib.strCells s = u8s (sn s) := by simp [Lib.strCells, u8s, sn]
theorem sn_get (s : ByteArray) (k : Nat) (h : k < s.size) : (sn s).getD k 0 = s[k].toNat := by
  have h' : k < s.data.toList.length := by simpa using h
  rw [List.getD_eq_getElem?_getD, sn, List.getElem?_map, List.getElem?_eq_getElem h']
  simp
  rfl
/-- A frame's bytes. -/
def fb (s : ByteArray) : List Nat := [11] ++ sn s ++ [28, 13]
theorem fb_length (s : ByteArray) : (fb s).length = s.size + 3 := by simp [fb, sn_length]
theorem fb_lt (s : ByteArray) : ∀ x ∈ fb s, x < 256 := by
  intro x hx
  simp only [fb, List.mem_append] at hx
  rcases hx with (hx | hx) | hx
  · simp at hx; omega
  · exact sn_lt s x hx
  · simp at hx; omega
theorem frame_v (w : World) (s : ByteArray) (hl : s.size ≤ 16777216) : Calls Try.prog 8 #[.string s] w fun e w' => ∃ v, e = .returned v ∧ V w' v (fb s) ∧ (∃ g c, v = .slice (some ⟨g, 0, none⟩) (s.size + 3) c ∧ w.heap.size ≤ g ∧ g < w'.heap.size) ∧ Below w.heap.size w w' := by
  refine (frame_any w s (by omega)).mono fun e w' ⟨he, ho, hb⟩ => ⟨_, he, ?_, ⟨_, _, rfl, Nat.le_refl _, (ho.lt _ rfl).2⟩, hb⟩
  refine own_v (B := w.heap.size) ?_ (fb_lt s)
  rw [fb_length]
  have : u8s (fb s) = ([.int .u8 11] ++ Lib.strCells s) ++ [.int .u8 28, .int .u8 13] := by rw [fb, u8s_append, u8s_append, sn_cells]; rfl
  rw [this]
  exact ho

set_option maxRecDepth 100000 in
set_option maxHeartbeats 1000000 in
theorem frameR_any (w : World) (s : ByteArray) (hl : s.size ≤ 16777216) : Calls Try.prog 15 #[.string s] w fun e w' => ∃ v, e = .returned v ∧ V w' v (fb s) ∧ Below w.heap.size w w' := by
  obtain ⟨i0, hi, hz0, hz1, hz2⟩ := info_parts info5s
  obtain ⟨B, hB⟩ : ∃ B, w.heap.size = B := ⟨_, rfl⟩
  have HB : Hid (B = w.heap.size) := hB.symm
  have hown0 : (w.alloc (.cells #[.int .u8 11] 5)).ownsRow B 5 1 (.slice (some ⟨B, 0, none⟩) 1 1) 1 (u8s ([11] ++ (sn s).take 0)) := by
    refine ⟨by simp [u8s], .inr ⟨B, 1, #[.int .u8 11], rfl, Nat.le_refl _, by rw [← hB]; exact blk_alloc_new _ _, Nat.le_refl _, by decide, rfl, rfl⟩⟩
  have hbe0 : Below B w (w.alloc (.cells #[.int .u8 11] 5)) := (Below.refl _ _).alloc (by omega) _
  have H0 : Hid ((w.alloc (.cells #[.int .u8 11] 5)).ownsRow B 5 1 (.slice (some ⟨B, 0, none⟩) 1 1) 1 (u8s ([11] ++ (sn s).take 0))) := hown0
  have HB0 : Hid (Below B w (w.alloc (.cells #[.int .u8 11] 5))) := hbe0
  clear hown0 hbe0
  go_enter Try.func15, Try.ntmps15
  go_wp2
  go_loopw [3, 4] (fun v i wr => ∃ k : Nat, k ≤ s.size ∧ i = .int .i64 k ∧ Hid (wr.ownsRow B 5 1 v (1 + k) (u8s ([11] ++ (sn s).take k))) ∧ Hid (Below B w wr)) (fun _ i _ => s.size - (intOf i).toNat)
  case atStart => exact ⟨0, Nat.zero_le _, rfl, H0.out, HB0.out⟩
  case round =>
    obtain ⟨k, hk, rfl, HO, HE⟩ := hrel
    clear H0 HB0
    have HBr : Hid (B ≤ wr.heap.size) := by have := HE.out.size; rw [HB.out]; exact this
    obtain ⟨ao, cap, rfl⟩ := own_slice HO.out
    by_cases hkn : k < s.size
    · have hy := sn_get s k hkn
      obtain ⟨y, hy'⟩ : ∃ y, s[k].toNat = y := ⟨_, rfl⟩
      rw [hy'] at hy
      go_wp2_with (first | (at_builtin; refine wpList_append_lies _ rfl _ _ 22 rfl B 5 i0 _ 1 1 Try.underlying22 hi hz0 hz1 hz2 rfl (by decide) (.slice ao (1 + k) cap) (1 + k) (u8s ([11] ++ (sn s).take k)) rfl (World.ownsRow.alloc HO.out _) ⟨wr.heap.size, 0, none⟩ 1 1 [.int .u8 (y : Int)] rfl rfl (cell_one_new _ _ _) (by intro u hu; simp at hu; subst hu; rfl) (by decide) (by unfold maxLen; omega) (by omega) (by have := HBr.out; simp; omega) (wr.heap.size + 1) (by simp) ?_) | fail)
      intro g cp W2 hown2 hgrow2 hat2 hlt2
      have HE2 : Hid (Below B w W2) := (HE.out.alloc HBr.out _).grown hgrow2 (by have := HBr.out; simp; omega) (fun j hj => (HO.out.lt j hj).1)
      have HO2 : Hid (W2.ownsRow B 5 1 (.slice (some ⟨g, 0, none⟩) (1 + k + 1) cp) (1 + k + 1) (u8s ([11] ++ (sn s).take (k + 1)))) := by
        rw [u8s_append, ← u8s_take_succ (by rw [sn_length]; exact hkn), hy, ← List.append_assoc, ← u8s_append]
        exact hown2
      clear hown2 hgrow2 hat2 hlt2
      go_wp2
      go_roundw
      case rel => exact ⟨k + 1, by omega, by go_num, HO2.out, HE2.out⟩
      case measure => simp [intOf]; omega
    · have hk' : k = s.size := by omega
      subst hk'
      go_wp2_with (first | (at_builtin; refine wpList_append_lies _ rfl _ _ 22 rfl B 5 i0 _ 1 1 Try.underlying22 hi hz0 hz1 hz2 rfl (by decide) (.slice ao (1 + s.size) cap) (1 + s.size) (u8s ([11] ++ (sn s).take s.size)) rfl (World.ownsRow.alloc HO.out _) ⟨wr.heap.size, 0, none⟩ 2 2 [.int .u8 28, .int .u8 13] rfl rfl (cell_two_new _ _ _ _) (by intro u hu; simp at hu; rcases hu with rfl | rfl <;> rfl) (by decide) (by unfold maxLen; omega) (by omega) (by have := HBr.out; simp; omega) (wr.heap.size + 1) (by simp) ?_) | fail)
      intro g cp W2 hown2 hgrow2 hat2 hlt2
      have HE2 : Hid (Below B w W2) := (HE.out.alloc HBr.out _).grown hgrow2 (by have := HBr.out; simp; omega) (fun j hj => (HO.out.lt j hj).1)
      have HO2 : Hid (W2.ownsRow B 5 1 (.slice (some ⟨g, 0, none⟩) (1 + s.size + 2) cp) (fb s).length (u8s (fb s))) := by
        have e1 : u8s ([11] ++ (sn s).take s.size) ++ [.int .u8 28, .int .u8 13] = u8s (fb s) := by
          rw [fb, u8s_append ([11] ++ sn s), List.take_of_length_le (by rw [sn_length]; exact Nat.le_refl _)]; rfl
        rw [← e1, fb_length, show s.size + 3 = 1 + s.size + 2 by omega]
        exact hown2
      clear hown2 hgrow2 hat2 hlt2
      go_wp2
      go_ret
      exact ⟨_, rfl, own_v HO2.out (fb_lt s), by rw [hB]; exact HE2.out⟩

theorem fsC_get : ∀ (fs : Fs) (k : Nat), k < fs.length → (fsC fs)[2 * k]? = some (.string (arr (fs.getD k ([], false)).1)) ∧ (fsC fs)[2 * k + 1]? = some (.bool (fs.getD k ([], false)).2)
  | [], k, h => by simp at h
  | f :: r, 0, _ => ⟨rfl, rfl⟩
  | f :: r, k + 1, h => by
    have ih := fsC_get r k (by simpa using h)
    have e1 : 2 * (k + 1) = 2 * k + 2 := by omega
    rw [e1]
    exact ih

/-- Frames that lie there. -/
def FL (w : World) (v : Value) (fs : Fs) : Prop := ∃ B, w.ownsRow B 37 2 v fs.length (fsC fs)
theorem FL.cells {w : World} {ao : Option Addr} {n cap : Nat} {fs : Fs} (h : FL w (.slice ao n cap) fs) (k : Nat) (hk : k < fs.length) :
    ∃ g, ao = some ⟨g, 0, none⟩ ∧ w.cell? ⟨g, k * 2, none⟩ = some (.string (arr (fs.getD k ([], false)).1)) ∧ w.cell? ⟨g, k * 2 + 1, none⟩ = some (.bool (fs.getD k ([], false)).2) := by
  obtain ⟨B, h⟩ := h
  rcases h.2 with ⟨e, h0⟩ | ⟨g, c, cur, e, _⟩
  · omega
  · cases e
    have h1 := h.cells (g := g) rfl (2 * k) _ (fsC_get fs k hk).1
    have h2 := h.cells (g := g) rfl (2 * k + 1) _ (fsC_get fs k hk).2
    rw [add_at, Nat.zero_add, Nat.mul_comm] at h1 h2
    exact ⟨g, rfl, h1, h2⟩

set_option maxRecDepth 100000 in
set_option maxHeartbeats 2000000 in
/-- The same frames. -/
theorem same_any {w : World} {v1 v2 : Value} {fs : Fs} (h1 : FL w v1 fs) (h2 : FL w v2 fs) (hn : fs.length ≤ 16777216) : Calls Try.prog 17 #[v1, v2] w fun e w' => e = .returned (.bool true) ∧ ∃ m, w' = w.drewN m := by
  obtain ⟨a1, c1, rfl⟩ := own_slice h1.choose_spec
  obtain ⟨a2, c2, rfl⟩ := own_slice h2.choose_spec
  have H1 : Hid (FL w (.slice a1 fs.length c1) fs) := h1
  have H2 : Hid (FL w (.slice a2 fs.length c2) fs) := h2
  clear h1 h2
  go_enter Try.func17, Try.ntmps17
  go_wp2
  go_loopw [5] (fun i wr => ∃ k m : Nat, k ≤ fs.length ∧ i = .int .i64 k ∧ wr = w.drewN m) (fun i _ => fs.length - (intOf i).toNat)
  case atStart => exact ⟨0, 0, Nat.zero_le _, rfl, rfl⟩
  case round =>
    obtain ⟨k, m, hk, rfl, rfl⟩ := hrel
    by_cases hkn : k < fs.length
    · obtain ⟨g1, rfl, x1, y1⟩ := H1.out.cells k hkn
      obtain ⟨g2, rfl, x2, y2⟩ := H2.out.cells k hkn
      go_wp2
      go_quiet (fail)
      go_wp2
      go_roundw
      case rel => exact ⟨k + 1, _, by omega, by go_num, rfl⟩
      case measure => simp [intOf]; omega
    · have hk' : k = fs.length := by omega
      subst hk'
      go_wp2
      go_ret
      exact ⟨rfl, _, rfl⟩
end Go.Proofs.Ytfjcmniicbppdaa
