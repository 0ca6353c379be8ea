import Derived.Test.YteglammdigmmfaaGreatDoorMi
import Derived.Test.YteglammdigmmfaaGreatDoorFc
/-
  DERIVED. The document's bounds; its faults, asked and with a link ahead.
-/
namespace Go.Proofs.YteglammdigmmfaaGreatDoor.Ck
open Go Go.Proofs Go.RowKit
open Go.Proofs.YteglammdigmmfaaGreatDoor.Sp (okV)

set_option maxRecDepth 100000 in
theorem rany_none (w : World) : Calls Tryz.prog 26 #[.agg #[.slice none 0 0, .int .i64 0]] w fun e w' => e = .returned (.bool false) ∧ Below w.heap.size w w' := by
  go_enter Tryz.func26, Tryz.ntmps26
  go_wp2
  go_ret
  exact ⟨rfl, (Below.refl _ _).alloc (Nat.le_refl _) _⟩
set_option maxRecDepth 100000 in
theorem rany_some (w : World) (g k cp : Nat) (c : Int) (hc : c ≠ 0) : Calls Tryz.prog 26 #[.agg #[.slice (some ⟨g, 0, none⟩) k cp, .int .i64 c]] w fun e w' => e = .returned (.bool true) ∧ Below w.heap.size w w' := by
  have h0 : (c != 0) = true := by simpa using hc
  have h1 : (c == 0) = false := beq_eq_false_iff_ne.2 hc
  go_enter Tryz.func26, Tryz.ntmps26
  go_wp2
  go_ret
  exact ⟨rfl, (Below.refl _ _).alloc (Nat.le_refl _) _⟩
set_option maxRecDepth 100000 in
set_option maxHeartbeats 8000000 in
theorem rbounds_no (w : World) (v : Int) (n : ByteArray) (p u m : Int) (t c q l : Bool) (s : ByteArray)
    (C17 : ∀ W, Calls Tryz.prog 17 #[.int .i64 v] W fun e w' => e = .returned (.tuple #[.agg #[.string n, .int .u8 p, .int .i64 u, .int .i64 m, .bool t, .bool c, .bool q, .bool l], .bool false]) ∧ Below W.heap.size W w') :
    Calls Tryz.prog 25 #[.int .i64 v, .string s] w (CkD w (some ([(dB, 0)], 62))) := by
  have HR0 : Hid (Rz w.heap.size (w.alloc (.cells #[.slice none 0 0, .int .i64 0] 31))) := Rz.new w
  have HB0 : Hid (Below w.heap.size w (w.alloc (.cells #[.slice none 0 0, .int .i64 0] 31))) := (Below.refl _ _).alloc (Nat.le_refl _) _
  go_enter Tryz.func25, Tryz.ntmps25
  go_wp2_with (go_at_call 17; refine Stop.mk ?_)
  refine Stop.out ((C17 _).mono ?_)
  rintro e W1 ⟨rfl, hb1⟩
  have HR1 : Hid (Rz w.heap.size (W1.alloc (.cells #[.string n, .int .u8 p, .int .i64 u, .int .i64 m, .bool t, .bool c, .bool q, .bool l] 40))) := (HR0.out.on hb1).on ((Below.refl _ _).alloc (Nat.le_refl _) _)
  have HB1 : Hid (Below w.heap.size w (W1.alloc (.cells #[.string n, .int .u8 p, .int .i64 u, .int .i64 m, .bool t, .bool c, .bool q, .bool l] 40))) := (HB0.out.trans (hb1.mono HB0.out.size)).trans (((Below.refl _ _).alloc (Nat.le_refl _) _).mono (HB0.out.trans (hb1.mono HB0.out.size)).size)
  clear hb1
  go_wp2_with (go_at_call 18; refine Stop.mk ?_)
  refine Stop.out ((new1_any _ 0 62).mono ?_)
  rintro e W9 ⟨g9, rfl, hg9, hl9, hb9⟩
  obtain ⟨r0, r1, rf⟩ := HR1.out.on hb9
  have HB9 : Hid (Below w.heap.size w W9) := HB1.out.trans (hb9.mono HB1.out.size)
  have HL9 : Hid (LkAt W9 g9 [(dB, 0)]) := hl9
  have HG9 : Hid (w.heap.size ≠ g9) := Nat.ne_of_lt (Nat.lt_of_le_of_lt HB1.out.size hg9)
  clear hb9 hl9 hg9
  go_wp2
  refine bodyPost_ret (v := .agg #[.slice (some ⟨g9, 0, none⟩) 1 1, .int .i64 62]) (by simp [results, Tryz.results25, go_sem, r0, r1]) rfl ⟨_, rfl, ⟨g9, 1, rfl, lk_put HL9.out HG9.out _ _⟩, below_put HB9.out _ _⟩
set_option maxRecDepth 100000 in
set_option maxHeartbeats 8000000 in
theorem rbounds_18 (w : World) (n : ByteArray) (p u m : Int) (t c q l : Bool) (s : ByteArray)
    (C17 : ∀ W, Calls Tryz.prog 17 #[.int .i64 18] W fun e w' => e = .returned (.tuple #[.agg #[.string n, .int .u8 p, .int .i64 u, .int .i64 m, .bool t, .bool c, .bool q, .bool l], .bool true]) ∧ Below W.heap.size W w') :
    Calls Tryz.prog 25 #[.int .i64 18, .string s] w (CkD w (some ([(dB, 0)], 62))) := by
  have HR0 : Hid (Rz w.heap.size (w.alloc (.cells #[.slice none 0 0, .int .i64 0] 31))) := Rz.new w
  have HB0 : Hid (Below w.heap.size w (w.alloc (.cells #[.slice none 0 0, .int .i64 0] 31))) := (Below.refl _ _).alloc (Nat.le_refl _) _
  go_enter Tryz.func25, Tryz.ntmps25
  go_wp2_with (go_at_call 17; refine Stop.mk ?_)
  refine Stop.out ((C17 _).mono ?_)
  rintro e W1 ⟨rfl, hb1⟩
  have HR1 : Hid (Rz w.heap.size (W1.alloc (.cells #[.string n, .int .u8 p, .int .i64 u, .int .i64 m, .bool t, .bool c, .bool q, .bool l] 40))) := (HR0.out.on hb1).on ((Below.refl _ _).alloc (Nat.le_refl _) _)
  have HB1 : Hid (Below w.heap.size w (W1.alloc (.cells #[.string n, .int .u8 p, .int .i64 u, .int .i64 m, .bool t, .bool c, .bool q, .bool l] 40))) := (HB0.out.trans (hb1.mono HB0.out.size)).trans (((Below.refl _ _).alloc (Nat.le_refl _) _).mono (HB0.out.trans (hb1.mono HB0.out.size)).size)
  clear hb1
  go_wp2_with (go_at_call 18; refine Stop.mk ?_)
  refine Stop.out ((new1_any _ 0 62).mono ?_)
  rintro e W9 ⟨g9, rfl, hg9, hl9, hb9⟩
  obtain ⟨r0, r1, rf⟩ := HR1.out.on hb9
  have HB9 : Hid (Below w.heap.size w W9) := HB1.out.trans (hb9.mono HB1.out.size)
  have HL9 : Hid (LkAt W9 g9 [(dB, 0)]) := hl9
  have HG9 : Hid (w.heap.size ≠ g9) := Nat.ne_of_lt (Nat.lt_of_le_of_lt HB1.out.size hg9)
  clear hb9 hl9 hg9
  go_wp2
  refine bodyPost_ret (v := .agg #[.slice (some ⟨g9, 0, none⟩) 1 1, .int .i64 62]) (by simp [results, Tryz.results25, go_sem, r0, r1]) rfl ⟨_, rfl, ⟨g9, 1, rfl, lk_put HL9.out HG9.out _ _⟩, below_put HB9.out _ _⟩
set_option maxRecDepth 100000 in
set_option maxHeartbeats 8000000 in
theorem rbounds_big (w : World) (v : Int) (n : ByteArray) (p u m : Int) (t c q l : Bool) (s : ByteArray) (hv : v ≠ 18) (hb : 65534 < s.size)
    (C17 : ∀ W, Calls Tryz.prog 17 #[.int .i64 v] W fun e w' => e = .returned (.tuple #[.agg #[.string n, .int .u8 p, .int .i64 u, .int .i64 m, .bool t, .bool c, .bool q, .bool l], .bool true]) ∧ Below W.heap.size W w') :
    Calls Tryz.prog 25 #[.int .i64 v, .string s] w (CkD w (some ([(dB, 65534)], 63))) := by
  have e18 : (v == 18) = false := beq_eq_false_iff_ne.2 hv
  have i1 : (s.size : Int) > 65534 := by omega
  have HR0 : Hid (Rz w.heap.size (w.alloc (.cells #[.slice none 0 0, .int .i64 0] 31))) := Rz.new w
  have HB0 : Hid (Below w.heap.size w (w.alloc (.cells #[.slice none 0 0, .int .i64 0] 31))) := (Below.refl _ _).alloc (Nat.le_refl _) _
  go_enter Tryz.func25, Tryz.ntmps25
  go_wp2_with (go_at_call 17; refine Stop.mk ?_)
  refine Stop.out ((C17 _).mono ?_)
  rintro e W1 ⟨rfl, hb1⟩
  have HR1 : Hid (Rz w.heap.size (W1.alloc (.cells #[.string n, .int .u8 p, .int .i64 u, .int .i64 m, .bool t, .bool c, .bool q, .bool l] 40))) := (HR0.out.on hb1).on ((Below.refl _ _).alloc (Nat.le_refl _) _)
  have HB1 : Hid (Below w.heap.size w (W1.alloc (.cells #[.string n, .int .u8 p, .int .i64 u, .int .i64 m, .bool t, .bool c, .bool q, .bool l] 40))) := (HB0.out.trans (hb1.mono HB0.out.size)).trans (((Below.refl _ _).alloc (Nat.le_refl _) _).mono (HB0.out.trans (hb1.mono HB0.out.size)).size)
  clear hb1
  go_wp2_with (go_at_call 18; refine Stop.mk ?_)
  refine Stop.out ((new1_any _ 65534 63).mono ?_)
  rintro e W9 ⟨g9, rfl, hg9, hl9, hb9⟩
  obtain ⟨r0, r1, rf⟩ := HR1.out.on hb9
  have HB9 : Hid (Below w.heap.size w W9) := HB1.out.trans (hb9.mono HB1.out.size)
  have HL9 : Hid (LkAt W9 g9 [(dB, 65534)]) := hl9
  have HG9 : Hid (w.heap.size ≠ g9) := Nat.ne_of_lt (Nat.lt_of_le_of_lt HB1.out.size hg9)
  clear hb9 hl9 hg9
  go_wp2
  refine bodyPost_ret (v := .agg #[.slice (some ⟨g9, 0, none⟩) 1 1, .int .i64 63]) (by simp [results, Tryz.results25, go_sem, r0, r1]) rfl ⟨_, rfl, ⟨g9, 1, rfl, lk_put HL9.out HG9.out _ _⟩, below_put HB9.out _ _⟩
set_option maxRecDepth 100000 in
set_option maxHeartbeats 8000000 in
theorem rbounds_ok (w : World) (v : Int) (n : ByteArray) (p u m : Int) (t c q l : Bool) (s : ByteArray) (hv : v ≠ 18) (hb : s.size ≤ 65534)
    (C17 : ∀ W, Calls Tryz.prog 17 #[.int .i64 v] W fun e w' => e = .returned (.tuple #[.agg #[.string n, .int .u8 p, .int .i64 u, .int .i64 m, .bool t, .bool c, .bool q, .bool l], .bool true]) ∧ Below W.heap.size W w') :
    Calls Tryz.prog 25 #[.int .i64 v, .string s] w (CkD w (none)) := by
  have e18 : (v == 18) = false := beq_eq_false_iff_ne.2 hv
  have i1 : ¬ ((s.size : Int) > 65534) := by omega
  have HR0 : Hid (Rz w.heap.size (w.alloc (.cells #[.slice none 0 0, .int .i64 0] 31))) := Rz.new w
  have HB0 : Hid (Below w.heap.size w (w.alloc (.cells #[.slice none 0 0, .int .i64 0] 31))) := (Below.refl _ _).alloc (Nat.le_refl _) _
  go_enter Tryz.func25, Tryz.ntmps25
  go_wp2_with (go_at_call 17; refine Stop.mk ?_)
  refine Stop.out ((C17 _).mono ?_)
  rintro e W1 ⟨rfl, hb1⟩
  have HR1 : Hid (Rz w.heap.size (W1.alloc (.cells #[.string n, .int .u8 p, .int .i64 u, .int .i64 m, .bool t, .bool c, .bool q, .bool l] 40))) := (HR0.out.on hb1).on ((Below.refl _ _).alloc (Nat.le_refl _) _)
  have HB1 : Hid (Below w.heap.size w (W1.alloc (.cells #[.string n, .int .u8 p, .int .i64 u, .int .i64 m, .bool t, .bool c, .bool q, .bool l] 40))) := (HB0.out.trans (hb1.mono HB0.out.size)).trans (((Below.refl _ _).alloc (Nat.le_refl _) _).mono (HB0.out.trans (hb1.mono HB0.out.size)).size)
  clear hb1
  go_wp2_with (go_at_call 19; refine Stop.mk ?_)
  refine Stop.out ((Tb.none_any _).mono ?_)
  rintro e W9 ⟨rfl, hb9⟩
  obtain ⟨r0, r1, rf⟩ := HR1.out.on hb9
  have HB9 : Hid (Below w.heap.size w W9) := HB1.out.trans (hb9.mono HB1.out.size)
  clear hb9
  go_wp2
  refine bodyPost_ret (v := .agg #[.slice none 0 0, .int .i64 0]) (by simp [results, Tryz.results25, go_sem, r0, r1]) rfl ⟨_, rfl, rfl, below_put HB9.out _ _⟩
/-- What is refused ahead of all else. -/
def bdO (v : Int) (s : ByteArray) : Option (List Lk × Int) := if okV v = false then some ([(dB, 0)], 62) else if 65534 < s.size then some ([(dB, 65534)], 63) else none
theorem rbounds_any (w : World) (v : Int) (s : ByteArray) : Calls Tryz.prog 25 #[.int .i64 v, .string s] w (CkD w (bdO v s)) := by
  unfold bdO
  cases h : okV v with
  | false =>
    rw [if_pos rfl]
    by_cases h18 : v = 18
    · rw [h18]
      exact rbounds_18 w _ _ _ _ _ _ _ _ s (fun W => Rp.rabout_open W 18)
    · have hn : ¬ (1 ≤ v ∧ v ≤ 28) := by
        unfold okV at h
        simp only [decide_eq_false_iff_not] at h
        omega
      refine rbounds_no w v (Rp.nm (Rp.vn v)) (Rp.pd (Rp.vn v)) (Rp.un (Rp.vn v)) (Rp.mo (Rp.vn v)) (Rp.tx (Rp.vn v)) (Rp.ch (Rp.vn v)) (Rp.mu (Rp.vn v)) (Rp.lo (Rp.vn v)) s (fun W => ?_)
      have c := Rp.rabout_open W v
      rw [decide_eq_false hn] at c
      exact c
  | true =>
    have hv : 1 ≤ v ∧ v ≤ 28 ∧ v ≠ 18 := by unfold okV at h; simpa using h
    rw [if_neg (by decide)]
    have c : ∀ W, Calls Tryz.prog 17 #[.int .i64 v] W fun e w' => e = .returned (.tuple #[.agg #[.string (Rp.nm (Rp.vn v)), .int .u8 (Rp.pd (Rp.vn v)), .int .i64 (Rp.un (Rp.vn v)), .int .i64 (Rp.mo (Rp.vn v)), .bool (Rp.tx (Rp.vn v)), .bool (Rp.ch (Rp.vn v)), .bool (Rp.mu (Rp.vn v)), .bool (Rp.lo (Rp.vn v))], .bool true]) ∧ Below W.heap.size W w' := fun W => by
      have c := Rp.rabout_open W v
      rw [decide_eq_true (show 1 ≤ v ∧ v ≤ 28 from ⟨hv.1, hv.2.1⟩)] at c
      exact c
    by_cases hb : 65534 < s.size
    · rw [if_pos hb]
      exact rbounds_big w v _ _ _ _ _ _ _ _ s hv.2.2 hb c
    · rw [if_neg hb]
      exact rbounds_ok w v _ _ _ _ _ _ _ _ s hv.2.2 (by omega) c
set_option maxRecDepth 100000 in
set_option maxHeartbeats 2000000 in
theorem rwrap_any (w : World) (a z c : Int) (s : ByteArray) (g cg : Nat) (h0 : w.cell? ⟨g, 0, none⟩ = some (.string s)) (h1 : w.cell? ⟨g, 1, none⟩ = some (.int .i64 z)) :
    Calls Tryz.prog 28 #[.string { data := #[100, 105, 99, 116] }, .int .i64 a, .agg #[.slice (some ⟨g, 0, none⟩) 1 cg, .int .i64 c]] w fun e w' => ∃ g2 c2, e = .returned (.agg #[.slice (some ⟨g2, 0, none⟩) 2 c2, .int .i64 c]) ∧ Hid (LkAt w' g2 [(dB, a), (s, z)]) ∧ Hid (Below w.heap.size w w') := by
  obtain ⟨i0, hi, hz0, hz1, hz2⟩ := info_parts infoLk
  have hgl : g < w.heap.size := Rp.cell_lt h0
  obtain ⟨W1, hW1⟩ : ∃ W1, ((w.alloc (.cells #[.slice (some ⟨g, 0, none⟩) 1 cg, .int .i64 c] 31)).alloc (.cells #[.slice none 0 0, .int .i64 0] 31)).alloc (.cells #[.string { data := #[100, 105, 99, 116] }, .int .i64 a] 69) = W1 := ⟨_, rfl⟩
  have hb1 : Below w.heap.size w W1 := by rw [← hW1]; exact (((Below.refl _ _).alloc (Nat.le_refl _) _).alloc (by simp) _).alloc (by simp; omega) _
  have bA : Below (w.heap.size + 1) (w.alloc (.cells #[.slice (some ⟨g, 0, none⟩) 1 cg, .int .i64 c] 31)) W1 := by rw [← hW1]; exact ((Below.refl _ _).alloc (by simp) _).alloc (by simp) _
  have bB : Below (w.heap.size + 1 + 1) ((w.alloc (.cells #[.slice (some ⟨g, 0, none⟩) 1 cg, .int .i64 c] 31)).alloc (.cells #[.slice none 0 0, .int .i64 0] 31)) W1 := by rw [← hW1]; exact (Below.refl _ _).alloc (by simp) _
  have hA : W1.heap[w.heap.size]? = some (.cells #[.slice (some ⟨g, 0, none⟩) 1 cg, .int .i64 c] 31 (0, 0)) := (bA.block _ (Nat.lt_succ_self _)).trans (Wk.heap_new w _)
  have hB : W1.heap[w.heap.size + 1]? = some (.cells #[.slice none 0 0, .int .i64 0] 31 (0, 0)) := (bB.block _ (Nat.lt_succ_self _)).trans (Tb.alloc2 _ _ _)
  have hC : W1.heap[w.heap.size + 1 + 1]? = some (.cells #[.string { data := #[100, 105, 99, 116] }, .int .i64 a] 69 (0, 0)) := by rw [← hW1]; exact Tb.alloc3 _ _ _ _
  have a0 : W1.cell? ⟨w.heap.size, 0, none⟩ = some (.slice (some ⟨g, 0, none⟩) 1 cg) := Tb.cell_blk hA rfl
  have a1 : W1.cell? ⟨w.heap.size, 1, none⟩ = some (.int .i64 c) := Tb.cell_blk hA rfl
  have b0 : W1.cell? ⟨w.heap.size + 1, 0, none⟩ = some (.slice none 0 0) := Tb.cell_blk hB rfl
  have b1 : W1.cell? ⟨w.heap.size + 1, 1, none⟩ = some (.int .i64 0) := Tb.cell_blk hB rfl
  have bf : ∀ i, W1.frozen? ⟨w.heap.size + 1, i, none⟩ = false := fun i => Tb.frozen_blk hB
  have HOW : Hid (W1.ownsRow (w.heap.size + 1 + 1) 69 2 (.slice (some ⟨w.heap.size + 1 + 1, 0, none⟩) 1 1) 1 (lkc [(dB, a)])) := ⟨rfl, .inr ⟨_, 1, _, rfl, Nat.le_refl _, hC, Nat.le_refl _, by unfold maxLen; decide, rfl, rfl⟩⟩
  have g0 := (hb1.cell (p := ⟨g, 0, none⟩) hgl).trans h0
  have g1 := (hb1.cell (p := ⟨g, 1, none⟩) hgl).trans h1
  have hs1 : W1.heap.size = w.heap.size + 1 + 1 + 1 := by rw [← hW1]; simp
  have HS1 : Hid _ := hs1
  have HB1 : Hid _ := hb1
  clear hA hB hC bA bB h0 h1 hb1 hs1
  go_enter Tryz.func28, Tryz.ntmps28
  go_wp2
  refine wp_loop_rounds 2 ?_
  rw [rounds_succ]
  go_wp2_with (at_builtin; refine StopF.out ?_)
  refine ⟨wpList_append_lies _ rfl (.tmp 20) (.tmp 26) 29 rfl (w.heap.size + 1 + 1) 69 i0 _ 2 24 Tryz.underlying29 hi hz0 hz1 hz2 rfl (by decide) (.slice (some ⟨w.heap.size + 1 + 1, 0, none⟩) 1 1) 1 (lkc [(dB, a)]) rfl (World.ownsRow.alloc HOW.out _) ⟨W1.heap.size, 0, none⟩ 1 1 [.string s, .int .i64 z] rfl rfl (Wk.news_new rfl _ _) (by intro u hu; simp at hu; rcases hu with rfl | rfl <;> rfl) (by decide) (by unfold maxLen; decide) (by decide) (by have := HS1.out; simp; omega) _ rfl ?_⟩
  intro g4 c4 W4 ho4 hg4 _ _
  have hk : ∀ k, k < w.heap.size + 1 + 1 → W4.heap[k]? = W1.heap[k]? := fun k hk => (hg4.block k (by have := HS1.out; simp; omega) (fun e => Nat.ne_of_lt hk (Option.some.inj e))).trans (Below.heap_alloc W1 _ k (by have := HS1.out; omega))
  have k1 : W4.cell? ⟨w.heap.size, 1, none⟩ = some (.int .i64 c) := (World.cell?_of_block (a := ⟨w.heap.size, 1, none⟩) (hk w.heap.size (by omega))).trans a1
  have k0 : W4.cell? ⟨w.heap.size, 0, none⟩ = some (.slice (some ⟨g, 0, none⟩) 1 cg) := (World.cell?_of_block (a := ⟨w.heap.size, 0, none⟩) (hk w.heap.size (by omega))).trans a0
  have m0 : W4.cell? ⟨w.heap.size + 1, 0, none⟩ = some (.slice none 0 0) := (World.cell?_of_block (a := ⟨w.heap.size + 1, 0, none⟩) (hk (w.heap.size + 1) (by omega))).trans b0
  have m1 : W4.cell? ⟨w.heap.size + 1, 1, none⟩ = some (.int .i64 0) := (World.cell?_of_block (a := ⟨w.heap.size + 1, 1, none⟩) (hk (w.heap.size + 1) (by omega))).trans b1
  have mf : ∀ i, W4.frozen? ⟨w.heap.size + 1, i, none⟩ = false := fun i => (World.frozen?_of_block (a := ⟨w.heap.size + 1, i, none⟩) (hk (w.heap.size + 1) (by omega))).trans (bf i)
  have hg4b := (ho4.lt g4 rfl).1
  have HLK : Hid (LkAt W4 g4 [(dB, a), (s, z)]) := lk_own (ls := [(dB, a), (s, z)]) ho4 rfl
  have HB4 : Hid (Below w.heap.size w W4) := ⟨hg4.os.trans HB1.out.os, hg4.tape.trans HB1.out.tape, hg4.output.trans HB1.out.output, by have := hg4.size; have := HB1.out.size; simp at *; omega, fun k hk' => (hk k (by omega)).trans (HB1.out.block k hk')⟩
  clear ho4 hg4 hk a0 a1 b0 b1 bf hW1 HOW g0 g1
  go_wp2
  rw [rounds_succ]
  go_wp2
  have e0 : ((W4.setCell ⟨w.heap.size + 1, 0, none⟩ (.slice (some ⟨g4, 0, none⟩) 2 c4)).setCell ⟨w.heap.size + 1, 1, none⟩ (.int .i64 c)).cell? ⟨w.heap.size + 1, 0, none⟩ = some (.slice (some ⟨g4, 0, none⟩) 2 c4) := (Rp.cell_set_ne (by decide)).trans (Rp.cell_set_eq m0)
  have e1 : ((W4.setCell ⟨w.heap.size + 1, 0, none⟩ (.slice (some ⟨g4, 0, none⟩) 2 c4)).setCell ⟨w.heap.size + 1, 1, none⟩ (.int .i64 c)).cell? ⟨w.heap.size + 1, 1, none⟩ = some (.int .i64 c) := Rp.cell_set_eq ((Rp.cell_set_ne (by decide)).trans m1)
  refine bodyPost_ret (v := .agg #[.slice (some ⟨g4, 0, none⟩) 2 c4, .int .i64 c]) (by simp only [results, Tryz.results28]; simp [go_sem, e0, e1]) rfl ⟨g4, c4, rfl, ?_, (HB4.out.setCell (p := ⟨w.heap.size + 1, 0, none⟩) (by simp) _).setCell (p := ⟨w.heap.size + 1, 1, none⟩) (by simp) _⟩
  intro i hi
  have h := HLK.out i hi
  exact ⟨(Rp.cell_set_off (by omega)).trans ((Rp.cell_set_off (by omega)).trans h.1), (Rp.cell_set_off (by omega)).trans ((Rp.cell_set_off (by omega)).trans h.2)⟩
end Go.Proofs.YteglammdigmmfaaGreatDoor.Ck
