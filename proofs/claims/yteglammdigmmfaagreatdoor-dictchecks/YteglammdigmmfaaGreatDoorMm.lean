import Derived.Test.YteglammdigmmfaaGreatDoorMl
import Derived.Test.YteglammdigmmfaaGreatDoorFd
/-
  DERIVED. Fits of both.
-/
namespace Go.Proofs.YteglammdigmmfaaGreatDoor.Ck
open Go Go.Proofs Go.RowKit
open Go.Proofs.YteglammdigmmfaaGreatDoor.Sp (okV spT u8s)

/-- Are there too few or too many values? -/
def ftB (K : Bool) (n : Nat) (L M : Int) : Bool := K && (decide (0 < n) && (decide ((n : Int) < L) || (decide (0 < M) && decide (M < (n : Int)))))
theorem rvalid_back (w : World) (v : Int) (s : ByteArray) : Calls Tryz.prog 8 #[.int .i64 v, .string s] w fun e w' => ∃ ao n cap c, e = .returned (.agg #[.slice ao n cap, .int .i64 c]) ∧ FltD w' (.agg #[.slice ao n cap, .int .i64 c]) (vdO v s) ∧ Below w.heap.size w w' := by
  refine (rvalid_any w v s).mono ?_
  rintro e W ⟨r, rfl, hf, hb⟩
  cases ho : vdO v s with
  | none =>
    rw [ho] at hf
    exact ⟨none, 0, 0, 0, by rw [show r = _ from hf], rfl, hb⟩
  | some x =>
    rw [ho] at hf
    obtain ⟨g, cap, rfl, hl⟩ := hf
    exact ⟨_, _, cap, _, rfl, ⟨g, cap, rfl, hl⟩, hb⟩
theorem flt_put {W : World} {b : Nat} {r : Value} {o : Option (List Lk × Int)} (h : FltD W r o) (ho : ∀ x, o = some x → 0 < x.1.length) (hz : Rz b W) (v0 v1 : Value) : FltD ((W.setCell ⟨b, 0, none⟩ v0).setCell ⟨b, 1, none⟩ v1) r o := by
  cases o with
  | none => exact h
  | some x =>
    obtain ⟨g, cap, h1, h2⟩ := h
    refine ⟨g, cap, h1, ?_⟩
    have hl := ho x rfl
    obtain ⟨ls, c⟩ := x
    cases ls with
    | nil => simp at hl
    | cons y l => exact lk_put h2 (lk_ne hz h2) _ _
theorem vdL_pos (v : Int) : ∀ T i x, vdL v T i = some x → 0 < x.1.length
  | [], _, _, h => by cases h
  | y :: T, i, x, h => by
    rw [vdL] at h
    split at h
    · obtain rfl := Option.some.inj h; simp
    · exact vdL_pos v T _ x h
theorem vdO_pos (v : Int) (s : ByteArray) (x : List Lk × Int) (h : vdO v s = some x) : 0 < x.1.length := by
  unfold vdO at h
  rcases bd_cases v s with ⟨hb, _⟩ | ⟨a, c, hb, _⟩
  · rw [hb] at h; exact vdL_pos v _ _ x h
  · rw [hb] at h; obtain rfl := Option.some.inj h; simp
set_option maxRecDepth 100000 in
set_option maxHeartbeats 8000000 in
theorem rfits_un (w : World) (v : Int) (s : ByteArray) (n : Nat) (h : bdO v s = none) (hs : s.size ≤ 65534) (hn : (spT v s).length = n) (t : Nat) (TT MM VV L M : Int) (SS : ByteArray)
    (C30 : ∀ W, Calls Tryz.prog 30 #[.int .u32 (t : Int)] W fun e w' => e = .returned (.tuple #[.agg #[.int .u32 TT, .int .u32 MM, .int .i64 VV, .string SS, .int .i64 L, .int .i64 M], .bool false]) ∧ Below W.heap.size W w') : Calls Tryz.prog 10 #[.int .u32 (t : Int), .int .i64 v, .string s] w (CkD w (vdO v s)) := by
  have c27 := fun W => Sp.rsplit_any W v s (by omega)
  rw [hn] at c27
  have HR0 : Hid (Rz w.heap.size (w.alloc (.cells #[.slice none 0 0, .int .i64 0] 31))) := Rz.new w
  have HB0 : Hid (Below w.heap.size w (w.alloc (.cells #[.slice none 0 0, .int .i64 0] 31))) := (Below.refl _ _).alloc (Nat.le_refl _) _
  go_enter Tryz.func10, Tryz.ntmps10
  go_wp2_with (go_at_call 25; refine Stop.mk ?_)
  refine Stop.out ((rbounds_nil _ v s h).mono ?_)
  rintro e W1 ⟨rfl, hb1⟩
  have hbA : Below W1.heap.size W1 (W1.alloc (.cells #[.slice none 0 0, .int .i64 0] 31)) := (Below.refl _ _).alloc (Nat.le_refl _) _
  have HR1 : Hid (Rz w.heap.size (W1.alloc (.cells #[.slice none 0 0, .int .i64 0] 31))) := (HR0.out.on hb1).on hbA
  have HBa : Hid (Below w.heap.size w W1) := HB0.out.trans (hb1.mono HB0.out.size)
  have HB1 : Hid (Below w.heap.size w (W1.alloc (.cells #[.slice none 0 0, .int .i64 0] 31))) := HBa.out.trans (hbA.mono HBa.out.size)
  clear hb1 hbA HBa h HR0 HB0
  go_wp2_with (go_at_call 26; refine Stop.mk ?_)
  refine Stop.out ((rany_none _).mono ?_)
  rintro e W2 ⟨rfl, hb2⟩
  have HR2 : Hid (Rz w.heap.size W2) := HR1.out.on hb2
  have HB2 : Hid (Below w.heap.size w W2) := HB1.out.trans (hb2.mono HB1.out.size)
  clear hb2 HR1 HB1
  go_wp2_with (go_at_call 27; refine Stop.mk ?_)
  refine Stop.out ((c27 _).mono ?_)
  rintro e W3 ⟨x, rfl, hx⟩
  obtain ⟨ao, cp, rfl, _⟩ := row_of (hn.symm ▸ hx.out.1)
  rw [hn]
  have HR3 : Hid (Rz w.heap.size W3) := HR2.out.on hx.out.2
  have HB3 : Hid (Below w.heap.size w W3) := HB2.out.trans (hx.out.2.mono HB2.out.size)
  clear hx c27 hn HR2 HB2
  go_wp2_with (go_at_call 30; refine Stop.mk ?_)
  refine Stop.out ((C30 _).mono ?_)
  rintro e W4 ⟨rfl, hb4⟩
  have hbB : Below W4.heap.size W4 (W4.alloc (.cells #[.int .u32 TT, .int .u32 MM, .int .i64 VV, .string SS, .int .i64 L, .int .i64 M] 62)) := (Below.refl _ _).alloc (Nat.le_refl _) _
  have HR4 : Hid (Rz w.heap.size (W4.alloc (.cells #[.int .u32 TT, .int .u32 MM, .int .i64 VV, .string SS, .int .i64 L, .int .i64 M] 62))) := (HR3.out.on hb4).on hbB
  have HBb : Hid (Below w.heap.size w W4) := HB3.out.trans (hb4.mono HB3.out.size)
  have HB4 : Hid (Below w.heap.size w (W4.alloc (.cells #[.int .u32 TT, .int .u32 MM, .int .i64 VV, .string SS, .int .i64 L, .int .i64 M] 62))) := HBb.out.trans (hbB.mono HBb.out.size)
  clear hb4 hbB HBb C30 HR3 HB3
  go_wp2_with (go_at_call 8; refine Stop.mk ?_)
  refine Stop.out ((rvalid_back _ v s).mono ?_)
  rintro e W9 ⟨a9, n9, c9, x9, rfl, hf9, hb9⟩
  have HZ9 : Hid (Rz w.heap.size W9) := HR4.out.on hb9
  obtain ⟨r0, r1, rf⟩ := HZ9.out
  have HB9 : Hid (Below w.heap.size w W9) := HB4.out.trans (hb9.mono HB4.out.size)
  have HF9 : Hid (FltD W9 (.agg #[.slice a9 n9 c9, .int .i64 x9]) (vdO v s)) := hf9
  clear hb9 hf9
  go_wp2
  refine bodyPost_ret (v := .agg #[.slice a9 n9 c9, .int .i64 x9]) (by simp [results, Tryz.results10, go_sem, r0, r1]) rfl ⟨_, rfl, flt_put HF9.out (vdO_pos v s) HZ9.out _ _, below_put HB9.out _ _⟩
set_option maxRecDepth 100000 in
set_option maxHeartbeats 8000000 in
theorem rfits_no (w : World) (v : Int) (s : ByteArray) (n : Nat) (h : bdO v s = none) (hs : s.size ≤ 65534) (hn : (spT v s).length = n) (t : Nat) (TT MM VV L M : Int) (SS : ByteArray) (h0 : n = 0)
    (C30 : ∀ W, Calls Tryz.prog 30 #[.int .u32 (t : Int)] W fun e w' => e = .returned (.tuple #[.agg #[.int .u32 TT, .int .u32 MM, .int .i64 VV, .string SS, .int .i64 L, .int .i64 M], .bool true]) ∧ Below W.heap.size W w') : Calls Tryz.prog 10 #[.int .u32 (t : Int), .int .i64 v, .string s] w (CkD w (vdO v s)) := by
  have c27 := fun W => Sp.rsplit_any W v s (by omega)
  rw [hn] at c27
  have i0 : ¬ ((n : Int) > 0) := by omega
  have HR0 : Hid (Rz w.heap.size (w.alloc (.cells #[.slice none 0 0, .int .i64 0] 31))) := Rz.new w
  have HB0 : Hid (Below w.heap.size w (w.alloc (.cells #[.slice none 0 0, .int .i64 0] 31))) := (Below.refl _ _).alloc (Nat.le_refl _) _
  go_enter Tryz.func10, Tryz.ntmps10
  go_wp2_with (go_at_call 25; refine Stop.mk ?_)
  refine Stop.out ((rbounds_nil _ v s h).mono ?_)
  rintro e W1 ⟨rfl, hb1⟩
  have hbA : Below W1.heap.size W1 (W1.alloc (.cells #[.slice none 0 0, .int .i64 0] 31)) := (Below.refl _ _).alloc (Nat.le_refl _) _
  have HR1 : Hid (Rz w.heap.size (W1.alloc (.cells #[.slice none 0 0, .int .i64 0] 31))) := (HR0.out.on hb1).on hbA
  have HBa : Hid (Below w.heap.size w W1) := HB0.out.trans (hb1.mono HB0.out.size)
  have HB1 : Hid (Below w.heap.size w (W1.alloc (.cells #[.slice none 0 0, .int .i64 0] 31))) := HBa.out.trans (hbA.mono HBa.out.size)
  clear hb1 hbA HBa h HR0 HB0
  go_wp2_with (go_at_call 26; refine Stop.mk ?_)
  refine Stop.out ((rany_none _).mono ?_)
  rintro e W2 ⟨rfl, hb2⟩
  have HR2 : Hid (Rz w.heap.size W2) := HR1.out.on hb2
  have HB2 : Hid (Below w.heap.size w W2) := HB1.out.trans (hb2.mono HB1.out.size)
  clear hb2 HR1 HB1
  go_wp2_with (go_at_call 27; refine Stop.mk ?_)
  refine Stop.out ((c27 _).mono ?_)
  rintro e W3 ⟨x, rfl, hx⟩
  obtain ⟨ao, cp, rfl, _⟩ := row_of (hn.symm ▸ hx.out.1)
  rw [hn]
  have HR3 : Hid (Rz w.heap.size W3) := HR2.out.on hx.out.2
  have HB3 : Hid (Below w.heap.size w W3) := HB2.out.trans (hx.out.2.mono HB2.out.size)
  clear hx c27 hn HR2 HB2
  go_wp2_with (go_at_call 30; refine Stop.mk ?_)
  refine Stop.out ((C30 _).mono ?_)
  rintro e W4 ⟨rfl, hb4⟩
  have hbB : Below W4.heap.size W4 (W4.alloc (.cells #[.int .u32 TT, .int .u32 MM, .int .i64 VV, .string SS, .int .i64 L, .int .i64 M] 62)) := (Below.refl _ _).alloc (Nat.le_refl _) _
  have HR4 : Hid (Rz w.heap.size (W4.alloc (.cells #[.int .u32 TT, .int .u32 MM, .int .i64 VV, .string SS, .int .i64 L, .int .i64 M] 62))) := (HR3.out.on hb4).on hbB
  have HBb : Hid (Below w.heap.size w W4) := HB3.out.trans (hb4.mono HB3.out.size)
  have HB4 : Hid (Below w.heap.size w (W4.alloc (.cells #[.int .u32 TT, .int .u32 MM, .int .i64 VV, .string SS, .int .i64 L, .int .i64 M] 62))) := HBb.out.trans (hbB.mono HBb.out.size)
  clear hb4 hbB HBb C30 HR3 HB3
  go_wp2_with (go_at_call 8; refine Stop.mk ?_)
  refine Stop.out ((rvalid_back _ v s).mono ?_)
  rintro e W9 ⟨a9, n9, c9, x9, rfl, hf9, hb9⟩
  have HZ9 : Hid (Rz w.heap.size W9) := HR4.out.on hb9
  obtain ⟨r0, r1, rf⟩ := HZ9.out
  have HB9 : Hid (Below w.heap.size w W9) := HB4.out.trans (hb9.mono HB4.out.size)
  have HF9 : Hid (FltD W9 (.agg #[.slice a9 n9 c9, .int .i64 x9]) (vdO v s)) := hf9
  clear hb9 hf9
  go_wp2
  refine bodyPost_ret (v := .agg #[.slice a9 n9 c9, .int .i64 x9]) (by simp [results, Tryz.results10, go_sem, r0, r1]) rfl ⟨_, rfl, flt_put HF9.out (vdO_pos v s) HZ9.out _ _, below_put HB9.out _ _⟩
set_option maxRecDepth 100000 in
set_option maxHeartbeats 8000000 in
theorem rfits_few (w : World) (v : Int) (s : ByteArray) (n : Nat) (h : bdO v s = none) (hs : s.size ≤ 65534) (hn : (spT v s).length = n) (t : Nat) (TT MM VV L M : Int) (SS : ByteArray) (h0 : 0 < n) (h1 : (n : Int) < L)
    (C30 : ∀ W, Calls Tryz.prog 30 #[.int .u32 (t : Int)] W fun e w' => e = .returned (.tuple #[.agg #[.int .u32 TT, .int .u32 MM, .int .i64 VV, .string SS, .int .i64 L, .int .i64 M], .bool true]) ∧ Below W.heap.size W w') : Calls Tryz.prog 10 #[.int .u32 (t : Int), .int .i64 v, .string s] w (CkD w (some ([(dB, (n : Int))], 66))) := by
  have c27 := fun W => Sp.rsplit_any W v s (by omega)
  rw [hn] at c27
  have i0 : (n : Int) > 0 := by omega
  have HR0 : Hid (Rz w.heap.size (w.alloc (.cells #[.slice none 0 0, .int .i64 0] 31))) := Rz.new w
  have HB0 : Hid (Below w.heap.size w (w.alloc (.cells #[.slice none 0 0, .int .i64 0] 31))) := (Below.refl _ _).alloc (Nat.le_refl _) _
  go_enter Tryz.func10, Tryz.ntmps10
  go_wp2_with (go_at_call 25; refine Stop.mk ?_)
  refine Stop.out ((rbounds_nil _ v s h).mono ?_)
  rintro e W1 ⟨rfl, hb1⟩
  have hbA : Below W1.heap.size W1 (W1.alloc (.cells #[.slice none 0 0, .int .i64 0] 31)) := (Below.refl _ _).alloc (Nat.le_refl _) _
  have HR1 : Hid (Rz w.heap.size (W1.alloc (.cells #[.slice none 0 0, .int .i64 0] 31))) := (HR0.out.on hb1).on hbA
  have HBa : Hid (Below w.heap.size w W1) := HB0.out.trans (hb1.mono HB0.out.size)
  have HB1 : Hid (Below w.heap.size w (W1.alloc (.cells #[.slice none 0 0, .int .i64 0] 31))) := HBa.out.trans (hbA.mono HBa.out.size)
  clear hb1 hbA HBa h HR0 HB0
  go_wp2_with (go_at_call 26; refine Stop.mk ?_)
  refine Stop.out ((rany_none _).mono ?_)
  rintro e W2 ⟨rfl, hb2⟩
  have HR2 : Hid (Rz w.heap.size W2) := HR1.out.on hb2
  have HB2 : Hid (Below w.heap.size w W2) := HB1.out.trans (hb2.mono HB1.out.size)
  clear hb2 HR1 HB1
  go_wp2_with (go_at_call 27; refine Stop.mk ?_)
  refine Stop.out ((c27 _).mono ?_)
  rintro e W3 ⟨x, rfl, hx⟩
  obtain ⟨ao, cp, rfl, _⟩ := row_of (hn.symm ▸ hx.out.1)
  rw [hn]
  have HR3 : Hid (Rz w.heap.size W3) := HR2.out.on hx.out.2
  have HB3 : Hid (Below w.heap.size w W3) := HB2.out.trans (hx.out.2.mono HB2.out.size)
  clear hx c27 hn HR2 HB2
  go_wp2_with (go_at_call 30; refine Stop.mk ?_)
  refine Stop.out ((C30 _).mono ?_)
  rintro e W4 ⟨rfl, hb4⟩
  have hbB : Below W4.heap.size W4 (W4.alloc (.cells #[.int .u32 TT, .int .u32 MM, .int .i64 VV, .string SS, .int .i64 L, .int .i64 M] 62)) := (Below.refl _ _).alloc (Nat.le_refl _) _
  have HR4 : Hid (Rz w.heap.size (W4.alloc (.cells #[.int .u32 TT, .int .u32 MM, .int .i64 VV, .string SS, .int .i64 L, .int .i64 M] 62))) := (HR3.out.on hb4).on hbB
  have HBb : Hid (Below w.heap.size w W4) := HB3.out.trans (hb4.mono HB3.out.size)
  have HB4 : Hid (Below w.heap.size w (W4.alloc (.cells #[.int .u32 TT, .int .u32 MM, .int .i64 VV, .string SS, .int .i64 L, .int .i64 M] 62))) := HBb.out.trans (hbB.mono HBb.out.size)
  clear hb4 hbB HBb C30 HR3 HB3
  go_wp2_with (go_at_call 18; refine Stop.mk ?_)
  refine Stop.out ((new1_any _ (n : Int) 66).mono ?_)
  rintro e W9 ⟨g9, rfl, hg9, hl9, hb9⟩
  obtain ⟨r0, r1, rf⟩ := HR4.out.on hb9
  have HB9 : Hid (Below w.heap.size w W9) := HB4.out.trans (hb9.mono HB4.out.size)
  have HL9 : Hid (LkAt W9 g9 [(dB, (n : Int))]) := hl9
  have HG9 : Hid (w.heap.size ≠ g9) := Nat.ne_of_lt (Nat.lt_of_le_of_lt HB4.out.size hg9)
  clear hb9 hl9 hg9
  go_wp2
  refine bodyPost_ret (v := .agg #[.slice (some ⟨g9, 0, none⟩) 1 1, .int .i64 66]) (by simp [results, Tryz.results10, go_sem, r0, r1]) rfl ⟨_, rfl, ⟨g9, 1, rfl, lk_put HL9.out HG9.out _ _⟩, below_put HB9.out _ _⟩
set_option maxRecDepth 100000 in
set_option maxHeartbeats 8000000 in
theorem rfits_any (w : World) (v : Int) (s : ByteArray) (n : Nat) (h : bdO v s = none) (hs : s.size ≤ 65534) (hn : (spT v s).length = n) (t : Nat) (TT MM VV L M : Int) (SS : ByteArray) (h0 : 0 < n) (h1 : ¬ (n : Int) < L) (h2 : ¬ 0 < M)
    (C30 : ∀ W, Calls Tryz.prog 30 #[.int .u32 (t : Int)] W fun e w' => e = .returned (.tuple #[.agg #[.int .u32 TT, .int .u32 MM, .int .i64 VV, .string SS, .int .i64 L, .int .i64 M], .bool true]) ∧ Below W.heap.size W w') : Calls Tryz.prog 10 #[.int .u32 (t : Int), .int .i64 v, .string s] w (CkD w (vdO v s)) := by
  have c27 := fun W => Sp.rsplit_any W v s (by omega)
  rw [hn] at c27
  have i0 : (n : Int) > 0 := by omega
  have i1 : ¬ ((n : Int) < L) := h1
  have i2 : ¬ (M > 0) := h2
  have HR0 : Hid (Rz w.heap.size (w.alloc (.cells #[.slice none 0 0, .int .i64 0] 31))) := Rz.new w
  have HB0 : Hid (Below w.heap.size w (w.alloc (.cells #[.slice none 0 0, .int .i64 0] 31))) := (Below.refl _ _).alloc (Nat.le_refl _) _
  go_enter Tryz.func10, Tryz.ntmps10
  go_wp2_with (go_at_call 25; refine Stop.mk ?_)
  refine Stop.out ((rbounds_nil _ v s h).mono ?_)
  rintro e W1 ⟨rfl, hb1⟩
  have hbA : Below W1.heap.size W1 (W1.alloc (.cells #[.slice none 0 0, .int .i64 0] 31)) := (Below.refl _ _).alloc (Nat.le_refl _) _
  have HR1 : Hid (Rz w.heap.size (W1.alloc (.cells #[.slice none 0 0, .int .i64 0] 31))) := (HR0.out.on hb1).on hbA
  have HBa : Hid (Below w.heap.size w W1) := HB0.out.trans (hb1.mono HB0.out.size)
  have HB1 : Hid (Below w.heap.size w (W1.alloc (.cells #[.slice none 0 0, .int .i64 0] 31))) := HBa.out.trans (hbA.mono HBa.out.size)
  clear hb1 hbA HBa h HR0 HB0
  go_wp2_with (go_at_call 26; refine Stop.mk ?_)
  refine Stop.out ((rany_none _).mono ?_)
  rintro e W2 ⟨rfl, hb2⟩
  have HR2 : Hid (Rz w.heap.size W2) := HR1.out.on hb2
  have HB2 : Hid (Below w.heap.size w W2) := HB1.out.trans (hb2.mono HB1.out.size)
  clear hb2 HR1 HB1
  go_wp2_with (go_at_call 27; refine Stop.mk ?_)
  refine Stop.out ((c27 _).mono ?_)
  rintro e W3 ⟨x, rfl, hx⟩
  obtain ⟨ao, cp, rfl, _⟩ := row_of (hn.symm ▸ hx.out.1)
  rw [hn]
  have HR3 : Hid (Rz w.heap.size W3) := HR2.out.on hx.out.2
  have HB3 : Hid (Below w.heap.size w W3) := HB2.out.trans (hx.out.2.mono HB2.out.size)
  clear hx c27 hn HR2 HB2
  go_wp2_with (go_at_call 30; refine Stop.mk ?_)
  refine Stop.out ((C30 _).mono ?_)
  rintro e W4 ⟨rfl, hb4⟩
  have hbB : Below W4.heap.size W4 (W4.alloc (.cells #[.int .u32 TT, .int .u32 MM, .int .i64 VV, .string SS, .int .i64 L, .int .i64 M] 62)) := (Below.refl _ _).alloc (Nat.le_refl _) _
  have HR4 : Hid (Rz w.heap.size (W4.alloc (.cells #[.int .u32 TT, .int .u32 MM, .int .i64 VV, .string SS, .int .i64 L, .int .i64 M] 62))) := (HR3.out.on hb4).on hbB
  have HBb : Hid (Below w.heap.size w W4) := HB3.out.trans (hb4.mono HB3.out.size)
  have HB4 : Hid (Below w.heap.size w (W4.alloc (.cells #[.int .u32 TT, .int .u32 MM, .int .i64 VV, .string SS, .int .i64 L, .int .i64 M] 62))) := HBb.out.trans (hbB.mono HBb.out.size)
  clear hb4 hbB HBb C30 HR3 HB3
  go_wp2_with (go_at_call 8; refine Stop.mk ?_)
  refine Stop.out ((rvalid_back _ v s).mono ?_)
  rintro e W9 ⟨a9, n9, c9, x9, rfl, hf9, hb9⟩
  have HZ9 : Hid (Rz w.heap.size W9) := HR4.out.on hb9
  obtain ⟨r0, r1, rf⟩ := HZ9.out
  have HB9 : Hid (Below w.heap.size w W9) := HB4.out.trans (hb9.mono HB4.out.size)
  have HF9 : Hid (FltD W9 (.agg #[.slice a9 n9 c9, .int .i64 x9]) (vdO v s)) := hf9
  clear hb9 hf9
  go_wp2
  refine bodyPost_ret (v := .agg #[.slice a9 n9 c9, .int .i64 x9]) (by simp [results, Tryz.results10, go_sem, r0, r1]) rfl ⟨_, rfl, flt_put HF9.out (vdO_pos v s) HZ9.out _ _, below_put HB9.out _ _⟩
set_option maxRecDepth 100000 in
set_option maxHeartbeats 8000000 in
theorem rfits_many (w : World) (v : Int) (s : ByteArray) (n : Nat) (h : bdO v s = none) (hs : s.size ≤ 65534) (hn : (spT v s).length = n) (t : Nat) (TT MM VV L M : Int) (SS : ByteArray) (h0 : 0 < n) (h1 : ¬ (n : Int) < L) (h2 : 0 < M) (h3 : M < (n : Int))
    (C30 : ∀ W, Calls Tryz.prog 30 #[.int .u32 (t : Int)] W fun e w' => e = .returned (.tuple #[.agg #[.int .u32 TT, .int .u32 MM, .int .i64 VV, .string SS, .int .i64 L, .int .i64 M], .bool true]) ∧ Below W.heap.size W w') : Calls Tryz.prog 10 #[.int .u32 (t : Int), .int .i64 v, .string s] w (CkD w (some ([(dB, (n : Int))], 66))) := by
  have c27 := fun W => Sp.rsplit_any W v s (by omega)
  rw [hn] at c27
  have i0 : (n : Int) > 0 := by omega
  have i1 : ¬ ((n : Int) < L) := h1
  have i2 : M > 0 := h2
  have i3 : (n : Int) > M := h3
  have HR0 : Hid (Rz w.heap.size (w.alloc (.cells #[.slice none 0 0, .int .i64 0] 31))) := Rz.new w
  have HB0 : Hid (Below w.heap.size w (w.alloc (.cells #[.slice none 0 0, .int .i64 0] 31))) := (Below.refl _ _).alloc (Nat.le_refl _) _
  go_enter Tryz.func10, Tryz.ntmps10
  go_wp2_with (go_at_call 25; refine Stop.mk ?_)
  refine Stop.out ((rbounds_nil _ v s h).mono ?_)
  rintro e W1 ⟨rfl, hb1⟩
  have hbA : Below W1.heap.size W1 (W1.alloc (.cells #[.slice none 0 0, .int .i64 0] 31)) := (Below.refl _ _).alloc (Nat.le_refl _) _
  have HR1 : Hid (Rz w.heap.size (W1.alloc (.cells #[.slice none 0 0, .int .i64 0] 31))) := (HR0.out.on hb1).on hbA
  have HBa : Hid (Below w.heap.size w W1) := HB0.out.trans (hb1.mono HB0.out.size)
  have HB1 : Hid (Below w.heap.size w (W1.alloc (.cells #[.slice none 0 0, .int .i64 0] 31))) := HBa.out.trans (hbA.mono HBa.out.size)
  clear hb1 hbA HBa h HR0 HB0
  go_wp2_with (go_at_call 26; refine Stop.mk ?_)
  refine Stop.out ((rany_none _).mono ?_)
  rintro e W2 ⟨rfl, hb2⟩
  have HR2 : Hid (Rz w.heap.size W2) := HR1.out.on hb2
  have HB2 : Hid (Below w.heap.size w W2) := HB1.out.trans (hb2.mono HB1.out.size)
  clear hb2 HR1 HB1
  go_wp2_with (go_at_call 27; refine Stop.mk ?_)
  refine Stop.out ((c27 _).mono ?_)
  rintro e W3 ⟨x, rfl, hx⟩
  obtain ⟨ao, cp, rfl, _⟩ := row_of (hn.symm ▸ hx.out.1)
  rw [hn]
  have HR3 : Hid (Rz w.heap.size W3) := HR2.out.on hx.out.2
  have HB3 : Hid (Below w.heap.size w W3) := HB2.out.trans (hx.out.2.mono HB2.out.size)
  clear hx c27 hn HR2 HB2
  go_wp2_with (go_at_call 30; refine Stop.mk ?_)
  refine Stop.out ((C30 _).mono ?_)
  rintro e W4 ⟨rfl, hb4⟩
  have hbB : Below W4.heap.size W4 (W4.alloc (.cells #[.int .u32 TT, .int .u32 MM, .int .i64 VV, .string SS, .int .i64 L, .int .i64 M] 62)) := (Below.refl _ _).alloc (Nat.le_refl _) _
  have HR4 : Hid (Rz w.heap.size (W4.alloc (.cells #[.int .u32 TT, .int .u32 MM, .int .i64 VV, .string SS, .int .i64 L, .int .i64 M] 62))) := (HR3.out.on hb4).on hbB
  have HBb : Hid (Below w.heap.size w W4) := HB3.out.trans (hb4.mono HB3.out.size)
  have HB4 : Hid (Below w.heap.size w (W4.alloc (.cells #[.int .u32 TT, .int .u32 MM, .int .i64 VV, .string SS, .int .i64 L, .int .i64 M] 62))) := HBb.out.trans (hbB.mono HBb.out.size)
  clear hb4 hbB HBb C30 HR3 HB3
  go_wp2_with (go_at_call 18; refine Stop.mk ?_)
  refine Stop.out ((new1_any _ (n : Int) 66).mono ?_)
  rintro e W9 ⟨g9, rfl, hg9, hl9, hb9⟩
  obtain ⟨r0, r1, rf⟩ := HR4.out.on hb9
  have HB9 : Hid (Below w.heap.size w W9) := HB4.out.trans (hb9.mono HB4.out.size)
  have HL9 : Hid (LkAt W9 g9 [(dB, (n : Int))]) := hl9
  have HG9 : Hid (w.heap.size ≠ g9) := Nat.ne_of_lt (Nat.lt_of_le_of_lt HB4.out.size hg9)
  clear hb9 hl9 hg9
  go_wp2
  refine bodyPost_ret (v := .agg #[.slice (some ⟨g9, 0, none⟩) 1 1, .int .i64 66]) (by simp [results, Tryz.results10, go_sem, r0, r1]) rfl ⟨_, rfl, ⟨g9, 1, rfl, lk_put HL9.out HG9.out _ _⟩, below_put HB9.out _ _⟩
set_option maxRecDepth 100000 in
set_option maxHeartbeats 8000000 in
theorem rfits_ok (w : World) (v : Int) (s : ByteArray) (n : Nat) (h : bdO v s = none) (hs : s.size ≤ 65534) (hn : (spT v s).length = n) (t : Nat) (TT MM VV L M : Int) (SS : ByteArray) (h0 : 0 < n) (h1 : ¬ (n : Int) < L) (h2 : 0 < M) (h3 : ¬ M < (n : Int))
    (C30 : ∀ W, Calls Tryz.prog 30 #[.int .u32 (t : Int)] W fun e w' => e = .returned (.tuple #[.agg #[.int .u32 TT, .int .u32 MM, .int .i64 VV, .string SS, .int .i64 L, .int .i64 M], .bool true]) ∧ Below W.heap.size W w') : Calls Tryz.prog 10 #[.int .u32 (t : Int), .int .i64 v, .string s] w (CkD w (vdO v s)) := by
  have c27 := fun W => Sp.rsplit_any W v s (by omega)
  rw [hn] at c27
  have i0 : (n : Int) > 0 := by omega
  have i1 : ¬ ((n : Int) < L) := h1
  have i2 : M > 0 := h2
  have i3 : ¬ ((n : Int) > M) := h3
  have HR0 : Hid (Rz w.heap.size (w.alloc (.cells #[.slice none 0 0, .int .i64 0] 31))) := Rz.new w
  have HB0 : Hid (Below w.heap.size w (w.alloc (.cells #[.slice none 0 0, .int .i64 0] 31))) := (Below.refl _ _).alloc (Nat.le_refl _) _
  go_enter Tryz.func10, Tryz.ntmps10
  go_wp2_with (go_at_call 25; refine Stop.mk ?_)
  refine Stop.out ((rbounds_nil _ v s h).mono ?_)
  rintro e W1 ⟨rfl, hb1⟩
  have hbA : Below W1.heap.size W1 (W1.alloc (.cells #[.slice none 0 0, .int .i64 0] 31)) := (Below.refl _ _).alloc (Nat.le_refl _) _
  have HR1 : Hid (Rz w.heap.size (W1.alloc (.cells #[.slice none 0 0, .int .i64 0] 31))) := (HR0.out.on hb1).on hbA
  have HBa : Hid (Below w.heap.size w W1) := HB0.out.trans (hb1.mono HB0.out.size)
  have HB1 : Hid (Below w.heap.size w (W1.alloc (.cells #[.slice none 0 0, .int .i64 0] 31))) := HBa.out.trans (hbA.mono HBa.out.size)
  clear hb1 hbA HBa h HR0 HB0
  go_wp2_with (go_at_call 26; refine Stop.mk ?_)
  refine Stop.out ((rany_none _).mono ?_)
  rintro e W2 ⟨rfl, hb2⟩
  have HR2 : Hid (Rz w.heap.size W2) := HR1.out.on hb2
  have HB2 : Hid (Below w.heap.size w W2) := HB1.out.trans (hb2.mono HB1.out.size)
  clear hb2 HR1 HB1
  go_wp2_with (go_at_call 27; refine Stop.mk ?_)
  refine Stop.out ((c27 _).mono ?_)
  rintro e W3 ⟨x, rfl, hx⟩
  obtain ⟨ao, cp, rfl, _⟩ := row_of (hn.symm ▸ hx.out.1)
  rw [hn]
  have HR3 : Hid (Rz w.heap.size W3) := HR2.out.on hx.out.2
  have HB3 : Hid (Below w.heap.size w W3) := HB2.out.trans (hx.out.2.mono HB2.out.size)
  clear hx c27 hn HR2 HB2
  go_wp2_with (go_at_call 30; refine Stop.mk ?_)
  refine Stop.out ((C30 _).mono ?_)
  rintro e W4 ⟨rfl, hb4⟩
  have hbB : Below W4.heap.size W4 (W4.alloc (.cells #[.int .u32 TT, .int .u32 MM, .int .i64 VV, .string SS, .int .i64 L, .int .i64 M] 62)) := (Below.refl _ _).alloc (Nat.le_refl _) _
  have HR4 : Hid (Rz w.heap.size (W4.alloc (.cells #[.int .u32 TT, .int .u32 MM, .int .i64 VV, .string SS, .int .i64 L, .int .i64 M] 62))) := (HR3.out.on hb4).on hbB
  have HBb : Hid (Below w.heap.size w W4) := HB3.out.trans (hb4.mono HB3.out.size)
  have HB4 : Hid (Below w.heap.size w (W4.alloc (.cells #[.int .u32 TT, .int .u32 MM, .int .i64 VV, .string SS, .int .i64 L, .int .i64 M] 62))) := HBb.out.trans (hbB.mono HBb.out.size)
  clear hb4 hbB HBb C30 HR3 HB3
  go_wp2_with (go_at_call 8; refine Stop.mk ?_)
  refine Stop.out ((rvalid_back _ v s).mono ?_)
  rintro e W9 ⟨a9, n9, c9, x9, rfl, hf9, hb9⟩
  have HZ9 : Hid (Rz w.heap.size W9) := HR4.out.on hb9
  obtain ⟨r0, r1, rf⟩ := HZ9.out
  have HB9 : Hid (Below w.heap.size w W9) := HB4.out.trans (hb9.mono HB4.out.size)
  have HF9 : Hid (FltD W9 (.agg #[.slice a9 n9 c9, .int .i64 x9]) (vdO v s)) := hf9
  clear hb9 hf9
  go_wp2
  refine bodyPost_ret (v := .agg #[.slice a9 n9 c9, .int .i64 x9]) (by simp [results, Tryz.results10, go_sem, r0, r1]) rfl ⟨_, rfl, flt_put HF9.out (vdO_pos v s) HZ9.out _ _, below_put HB9.out _ _⟩
set_option maxRecDepth 100000 in
set_option maxHeartbeats 8000000 in
theorem rfits_bad (w : World) (t : Nat) (v : Int) (s : ByteArray) (a c : Int) (h : bdO v s = some ([(dB, a)], c)) (hc : c ≠ 0) : Calls Tryz.prog 10 #[.int .u32 (t : Int), .int .i64 v, .string s] w (CkD w (some ([(dB, a)], c))) := by
  have HR0 : Hid (Rz w.heap.size (w.alloc (.cells #[.slice none 0 0, .int .i64 0] 31))) := Rz.new w
  have HB0 : Hid (Below w.heap.size w (w.alloc (.cells #[.slice none 0 0, .int .i64 0] 31))) := (Below.refl _ _).alloc (Nat.le_refl _) _
  go_enter Tryz.func10, Tryz.ntmps10
  go_wp2_with (go_at_call 25; refine Stop.mk ?_)
  refine Stop.out ((rbounds_some _ v s a c h).mono ?_)
  rintro e W1 ⟨g, cp, rfl, hl1, hb1⟩
  have hbA : Below W1.heap.size W1 (W1.alloc (.cells #[.slice (some ⟨g, 0, none⟩) 1 cp, .int .i64 c] 31)) := (Below.refl _ _).alloc (Nat.le_refl _) _
  have HR1 : Hid (Rz w.heap.size (W1.alloc (.cells #[.slice (some ⟨g, 0, none⟩) 1 cp, .int .i64 c] 31))) := (HR0.out.on hb1).on hbA
  have HL1 : Hid (LkAt (W1.alloc (.cells #[.slice (some ⟨g, 0, none⟩) 1 cp, .int .i64 c] 31)) g [(dB, a)]) := hl1.on hbA
  have HBa : Hid (Below w.heap.size w W1) := HB0.out.trans (hb1.mono HB0.out.size)
  have HB1 : Hid (Below w.heap.size w (W1.alloc (.cells #[.slice (some ⟨g, 0, none⟩) 1 cp, .int .i64 c] 31))) := HBa.out.trans (hbA.mono HBa.out.size)
  clear hb1 hbA hl1 HBa h
  go_wp2_with (go_at_call 26; refine Stop.mk ?_)
  refine Stop.out ((rany_some _ g 1 cp c hc).mono ?_)
  rintro e W2 ⟨rfl, hb2⟩
  obtain ⟨r0, r1, rf⟩ := HR1.out.on hb2
  have HL2 : Hid (LkAt W2 g [(dB, a)]) := HL1.out.on hb2
  have HG2 : Hid (w.heap.size ≠ g) := lk_ne (HR1.out.on hb2) HL2.out
  have HB2 : Hid (Below w.heap.size w W2) := HB1.out.trans (hb2.mono HB1.out.size)
  have f0 : W2.cell? ⟨W1.heap.size, 0, none⟩ = some (.slice (some ⟨g, 0, none⟩) 1 cp) := (hb2.cell (by simp)).trans (by simp)
  have f1 : W2.cell? ⟨W1.heap.size, 1, none⟩ = some (.int .i64 c) := (hb2.cell (by simp)).trans (by simp)
  clear hb2 hc
  go_wp2
  refine bodyPost_ret (v := .agg #[.slice (some ⟨g, 0, none⟩) 1 cp, .int .i64 c]) (by simp [results, Tryz.results10, go_sem, r0, r1]) rfl ⟨_, rfl, ⟨g, cp, rfl, lk_put HL2.out HG2.out _ _⟩, below_put HB2.out _ _⟩
theorem rfits_good (w : World) (t : Nat) (K : Bool) (TT MM VV L M : Int) (SS : ByteArray) (v : Int) (s : ByteArray) (n : Nat) (h : bdO v s = none) (hs : s.size ≤ 65534) (hn : (spT v s).length = n)
    (C30 : ∀ W, Calls Tryz.prog 30 #[.int .u32 (t : Int)] W fun e w' => e = .returned (.tuple #[.agg #[.int .u32 TT, .int .u32 MM, .int .i64 VV, .string SS, .int .i64 L, .int .i64 M], .bool K]) ∧ Below W.heap.size W w') : Calls Tryz.prog 10 #[.int .u32 (t : Int), .int .i64 v, .string s] w (CkD w (if ftB K n L M = true then some ([(dB, (n : Int))], 66) else vdO v s)) := by
  unfold ftB
  cases K with
  | false => rw [Bool.false_and, if_neg (by decide)]; exact rfits_un w v s n h hs hn t TT MM VV L M SS C30
  | true =>
    rw [Bool.true_and]
    by_cases h0 : 0 < n
    · rw [decide_eq_true h0, Bool.true_and]
      by_cases h1 : (n : Int) < L
      · rw [decide_eq_true h1, Bool.true_or, if_pos rfl]; exact rfits_few w v s n h hs hn t TT MM VV L M SS h0 h1 C30
      · rw [decide_eq_false h1, Bool.false_or]
        by_cases h2 : 0 < M
        · rw [decide_eq_true h2, Bool.true_and]
          by_cases h3 : M < (n : Int)
          · rw [decide_eq_true h3, if_pos rfl]; exact rfits_many w v s n h hs hn t TT MM VV L M SS h0 h1 h2 h3 C30
          · rw [decide_eq_false h3, if_neg (by decide)]; exact rfits_ok w v s n h hs hn t TT MM VV L M SS h0 h1 h2 h3 C30
        · rw [decide_eq_false h2, Bool.false_and, if_neg (by decide)]; exact rfits_any w v s n h hs hn t TT MM VV L M SS h0 h1 h2 C30
    · rw [decide_eq_false h0, Bool.false_and, if_neg (by decide)]; exact rfits_no w v s n h hs hn t TT MM VV L M SS (by omega) C30
end Go.Proofs.YteglammdigmmfaaGreatDoor.Ck
