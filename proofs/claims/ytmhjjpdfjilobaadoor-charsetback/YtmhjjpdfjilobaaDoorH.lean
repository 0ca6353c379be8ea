import Derived.Test.YtmhjjpdfjilobaaDoorG
import Derived.WideMake
import Derived.Room.AppendFits
/-
  DERIVED. Bytes that are lent; the law on sets that New did not give.
-/
namespace Go.Proofs.YtmhjjpdfjilobaaDoor
open Go Go.Proofs Go.RowKit

/-- Bytes that lie there. -/
def At (w : World) (b off : Nat) (bs : List Nat) : Prop := (∀ k, k < bs.length → w.cell? ⟨b, off + k, none⟩ = some (.int .u8 (bs.getD k 0 : Nat))) ∧ (∀ x ∈ bs, x < 256)
/-- A slice value, read: these bytes. -/
def V (w : World) (v : Value) (bs : List Nat) : Prop :=
  (∃ ao cap, v = .slice ao 0 cap ∧ bs = []) ∨ (∃ b off cap, v = .slice (some ⟨b, off, none⟩) bs.length cap ∧ 0 < bs.length ∧ bs.length ≤ cap ∧ At w b off bs)

theorem Tryd.info5 : (Tryd.prog.info? 5).map (fun i => (i.zero, i.size, i.bytes)) = some (some (.int .u8 0), 1, 1) := by kernel_rfl

def u8s (bs : List Nat) : List Value := bs.map fun (b : Nat) => Value.int .u8 (b : Int)

/-- Bytes in memory of our own, from block B on. -/
def Own (w : World) (B : Nat) (v : Value) (bs : List Nat) : Prop := w.ownsRow B 5 1 v bs.length (u8s bs) ∧ ∀ x ∈ bs, x < 256

theorem At.next {w w' : World} {b off : Nat} {bs : List Nat} (h : At w b off bs) (hb : Below w.heap.size w w') : At w' b off bs :=
  ⟨fun k hk => (hb.cell (World.block_lt_of_cell? w ⟨b, off + k, none⟩ (h.1 k hk))).trans (h.1 k hk), h.2⟩

theorem V.next {w w' : World} {v : Value} {bs : List Nat} (h : V w v bs) (hb : Below w.heap.size w w') : V w' v bs := by
  rcases h with h | ⟨b, off, cap, rfl, hp, hc, h⟩
  · exact .inl h
  · exact .inr ⟨b, off, cap, rfl, hp, hc, h.next hb⟩

theorem u8s_length (bs : List Nat) : (u8s bs).length = bs.length := by simp [u8s]

theorem u8s_get (bs : List Nat) (k : Nat) (hk : k < bs.length) : (u8s bs)[k]? = some (.int .u8 (bs.getD k 0 : Nat)) := by
  simp [u8s, List.getElem?_eq_getElem hk]

theorem u8s_take_succ {bs : List Nat} {k : Nat} (hk : k < bs.length) : u8s (bs.take k) ++ [.int .u8 (bs.getD k 0 : Nat)] = u8s (bs.take (k + 1)) := by
  rw [List.take_add_one, List.getElem?_eq_getElem hk]
  unfold u8s
  rw [List.map_append, List.getD_eq_getElem?_getD, List.getElem?_eq_getElem hk]
  rfl

theorem u8s_append (a b : List Nat) : u8s (a ++ b) = u8s a ++ u8s b := by simp [u8s]

theorem V.form {w : World} {v : Value} {bs : List Nat} (h : V w v bs) : ∃ ao cap, v = .slice ao bs.length cap ∧ (0 < bs.length → ∃ b off, ao = some ⟨b, off, none⟩ ∧ At w b off bs) ∧ ∀ x ∈ bs, x < 256 := by
  rcases h with ⟨a1, c1, rfl, rfl⟩ | ⟨b1, o1, c1, rfl, hp1, _, h1⟩
  · exact ⟨_, _, rfl, by simp, by simp⟩
  · exact ⟨_, _, rfl, fun _ => ⟨_, _, rfl, h1⟩, h1.2⟩

set_option maxRecDepth 100000 in
/-- Lend. -/
theorem lend_any {w : World} {v : Value} {bs : List Nat} (h : V w v bs) (hl : bs.length ≤ 140737488351232) :
    Calls Tryd.prog 24 #[v] w fun e w' => e = .returned (.slice (some ⟨w.heap.size, 0, none⟩) bs.length (bs.length + 3)) ∧ Own w' w.heap.size (.slice (some ⟨w.heap.size, 0, none⟩) (bs.length + 3) (bs.length + 3)) (bs ++ [160, 161, 162]) ∧ Below w.heap.size w w' := by
  obtain ⟨ao, cap, rfl, hf, hbytes⟩ := h.form
  obtain ⟨n, hn⟩ : ∃ n, n = bs.length := ⟨_, rfl⟩
  rw [← hn] at hl
  rw [← hn]
  have HN : Hid (n = bs.length) := hn
  have HF : Hid (0 < n → ∃ b off, ao = some ⟨b, off, none⟩ ∧ At w b off bs) := by rw [hn]; exact hf
  clear hn hf h
  obtain ⟨i0, hi, hz0, hz1, hz2⟩ := info_parts Tryd.info5
  obtain ⟨B, hB⟩ : ∃ B, w.heap.size = B := ⟨_, rfl⟩
  rw [hB]
  have HB : Hid (B = w.heap.size) := hB.symm
  go_enter Tryd.func24, Tryd.ntmps24
  go_wp2_with (first | (at_make; refine wpList_make_own _ rfl _ _ 43 rfl B 5 i0 (.int .u8 0) 1 Tryd.underlying43 hi hz0 hz1 .i64 .i64 _ (n + 3) rfl rfl ?_ ?_ ?_ ?_ ?_) | fail)
  · omega
  · rw [hz2]; omega
  · unfold maxLen; omega
  · omega
  · intro w1 hown1 hgrow1
    have hbe1 : Below B w w1 := (Below.refl B w).grown hgrow1 (by omega) (by simp)
    clear hgrow1
    go_wp2
    go_loopw [3, 4] (fun v i wr => ∃ k : Nat, k ≤ n ∧ i = .int .i64 k ∧ v = .slice (some ⟨B, 0, none⟩) k (n + 3) ∧ wr.ownsRow B 5 1 (.slice (some ⟨B, 0, none⟩) k (n + 3)) k (u8s (bs.take k)) ∧ Below B w wr) (fun _ i _ => n - (intOf i).toNat)
    case atStart => exact ⟨0, Nat.zero_le _, rfl, rfl, hown1, hbe1⟩
    case round =>
      clear hown1 hbe1
      obtain ⟨k, hk, rfl, rfl, hown, hbe⟩ := hrel
      have HBr : Hid (B ≤ wr.heap.size) := by have := hbe.size; rw [HB.out]; exact this
      by_cases hkn : k < n
      · obtain ⟨b, off, rfl, hb⟩ := HF.out (by omega)
        have hkl : k < bs.length := by rw [← HN.out]; exact hkn
        obtain ⟨y, HY, hcy⟩ : ∃ y, Hid (y = bs.getD k 0) ∧ wr.cell? ⟨b, off + k, none⟩ = some (.int .u8 (y : Int)) := ⟨_, rfl, (hbe.cell (p := ⟨b, off + k, none⟩) (by rw [HB.out]; exact World.block_lt_of_cell? w _ (hb.1 k hkl))).trans (hb.1 k hkl)⟩
        clear hkl
        go_wp2_with (first | (at_builtin; refine wpList_append_fits _ rfl _ _ 43 rfl B 5 i0 1 Tryd.underlying43 hi hz1 B k (n + 3) _ rfl (hown.alloc _) ⟨wr.heap.size, 0, none⟩ 1 1 [.int .u8 (y : Int)] rfl rfl ?_ ?_ ?_ ?_) | fail)
        · exact cell_one_new _ _ _
        · intro u hu; simp at hu; subst hu; rfl
        · omega
        · intro w2 hown' hgrow
          have hbe' : Below B w w2 := (hbe.alloc HBr.out _).grown hgrow (by have := HBr.out; simp; omega) (fun j hj => by cases hj; omega)
          rw [HY.out, u8s_take_succ (by rw [← HN.out]; exact hkn)] at hown'
          clear hgrow hown hcy
          go_wp2
          go_roundw
          case rel => exact ⟨k + 1, by omega, by go_num, rfl, hown', hbe'⟩
          case measure => simp [intOf]; omega
      · have hkn' : k = n := by omega
        subst hkn'
        rw [HN.out, List.take_length, ← HN.out] at hown
        go_wp2
        go_loopw [3, 5] (fun v i wr => ∃ j : Nat, j ≤ 3 ∧ i = .int .i64 j ∧ v = .slice (some ⟨B, 0, none⟩) (k + j) (k + 3) ∧ wr.ownsRow B 5 1 (.slice (some ⟨B, 0, none⟩) (k + j) (k + 3)) (k + j) (u8s (bs ++ [160, 161, 162].take j)) ∧ Below B w wr) (fun _ i _ => 3 - (intOf i).toNat)
        case atStart => exact ⟨0, by omega, rfl, rfl, by simpa using hown, hbe⟩
        case round =>
          clear hown hbe HBr
          obtain ⟨j, hj, rfl, rfl, hown, hbe⟩ := hrel
          have HBr : Hid (B ≤ wr.heap.size) := by have := hbe.size; rw [HB.out]; exact this
          by_cases hj3 : j < 3
          · have hm : (160 + (j : Int)) % 256 = 160 + (j : Int) := by omega
            go_wp2_with (first | (at_builtin; refine wpList_append_fits _ rfl _ _ 43 rfl B 5 i0 1 Tryd.underlying43 hi hz1 B (k + j) (k + 3) _ rfl (hown.alloc _) ⟨wr.heap.size, 0, none⟩ 1 1 [.int .u8 (160 + (j : Int))] rfl rfl ?_ ?_ ?_ ?_) | fail)
            · exact cell_one_new _ _ _
            · intro u hu; simp at hu; subst hu; rfl
            · omega
            · intro w2 hown' hgrow
              have hbe' : Below B w w2 := (hbe.alloc HBr.out _).grown hgrow (by have := HBr.out; simp; omega) (fun j hj => by cases hj; omega)
              have he : u8s (bs ++ [160, 161, 162].take j) ++ [.int .u8 (160 + (j : Int))] = u8s (bs ++ [160, 161, 162].take (j + 1)) := by
                rw [u8s_append, u8s_append, List.append_assoc]
                congr 1
                rcases (show j = 0 ∨ j = 1 ∨ j = 2 by omega) with rfl | rfl | rfl <;> rfl
              rw [he] at hown'
              clear hgrow hown hm he
              go_wp2
              go_roundw
              case rel => exact ⟨j + 1, by omega, by go_num, by congr 1, hown', hbe'⟩
              case measure => simp [intOf]; omega
          · have hj' : j = 3 := by omega
            subst hj'
            go_wp2
            go_ret
            refine ⟨rfl, ⟨?_, ?_⟩, hbe⟩
            · simpa [← HN.out] using hown
            · intro x hx
              rcases List.mem_append.1 hx with hx | hx
              · exact hbytes x hx
              · simp at hx; omega

theorem zero_any (w : World) : Calls Tryd.prog 23 #[.string { data := #[99, 104, 97, 114, 115, 101, 116] }, .int .i64 0, .int .i64 3] w fun e w' => ∃ g k, e = .returned (.agg #[.slice (some ⟨g, 0, none⟩) 1 k, .int .i64 3]) ∧ w'.cell? ⟨g, 0, none⟩ = some (.string { data := #[99, 104, 97, 114, 115, 101, 116] }) ∧ w'.cell? ⟨g, 1, none⟩ = some (.int .i64 0) ∧ Below w.heap.size w w' :=
  (new0_any 3 0 w).mono fun _ _ ⟨h, hb, h0, h1, _⟩ => ⟨_, _, h, h0, h1, hb⟩

set_option maxRecDepth 100000 in
set_option maxHeartbeats 1000000 in
theorem nobody_any (w : World) (p : Bool) (k r : Int) (a : Option Addr) (n cap : Nat) (bs : List Nat) (s : ByteArray) (hn : bs.length = n) (hV : V w (.slice a n cap) bs) (hl : n ≤ 140737488351232) (hS : Spell w) :
    Calls Tryd.prog 7 #[.bool p, .int .i64 k, .slice a n cap, .string s, .int .i32 r] w fun e w' => e = .returned (.bool true) ∧ Below w.heap.size w w' := by
  have HV : Hid (V w (.slice a n cap) bs) := hV
  have HN : Hid (bs.length = n) := hn
  have HSp : Hid (Spell w) := hS
  clear hV hn hS
  cases p with
  | false =>
    go_enter Tryd.func7, Tryd.ntmps7
    go_wp2_with (go_at_call 13; fail)
    refine (new_nil w (HSp.out.on (Below.refl w.heap.size w))).mono ?_
    rintro e W1 ⟨q1, v1, B1, rfl, hs1, hb1⟩
    have HB1 : Hid (Below w.heap.size w W1) := Below.trans (Below.refl w.heap.size w) (hb1.mono (Below.size (Below.refl w.heap.size w)))
    have HU1 : Hid (Unmade W1 (.pointer none)) := Unmade.on (show Unmade w (.pointer none) from .inl rfl) hb1
    have c16 := has_a W1 q1 v1 _ _ _ hs1
    clear hb1 hs1
    go_wp2_with (first | (go_at_call 16; refine c16.mono ?_; rintro e W ⟨rfl, rfl⟩) | (go_at_call 23; fail))
    refine (zero_any W1).mono ?_
    rintro e W2 ⟨g, kk, rfl, g0, g1, hb2⟩
    have HB2 : Hid (Below w.heap.size w W2) := HB1.out.trans (hb2.mono HB1.out.size)
    have HU2 : Hid (Unmade W2 (.pointer none)) := HU1.out.on hb2
    obtain ⟨W3, hW3⟩ : ∃ W3, W2.alloc (.cells #[.slice (some ⟨g, 0, none⟩) 1 kk, .int .i64 3] 36) = W3 := ⟨_, rfl⟩
    have hb3 : Below W2.heap.size W2 W3 := hW3 ▸ (Below.refl _ _).alloc (Nat.le_refl _) _
    have HB3 : Hid (Below w.heap.size w W3) := HB2.out.trans (hb3.mono HB2.out.size)
    have HU3 : Hid (Unmade W3 (.pointer none)) := HU2.out.on hb3
    have x0 : W3.cell? ⟨W2.heap.size, 0, none⟩ = some (.slice (some ⟨g, 0, none⟩) 1 kk) := by rw [← hW3]; simp
    have x1 : W3.cell? ⟨W2.heap.size, 1, none⟩ = some (.int .i64 3) := by rw [← hW3]; simp
    have k0 := (hb3.cell (p := ⟨g, 0, none⟩) (cell_lt g0)).trans g0
    have k1 := (hb3.cell (p := ⟨g, 1, none⟩) (cell_lt g1)).trans g1
    clear c16 HB1 HU1 hb2 hb3 g0 g1
    go_wp2_with (go_at_call 24; fail)
    have hl3 : bs.length ≤ 140737488351232 := by rw [HN.out]; exact hl
    refine (lend_any (HV.out.next HB3.out) hl3).mono ?_
    rw [HN.out]
    rintro e W4 ⟨rfl, -, hb4⟩
    have HB4 : Hid (Below w.heap.size w W4) := HB3.out.trans (hb4.mono HB3.out.size)
    have HU4 : Hid (Unmade W4 (.pointer none)) := HU3.out.on hb4
    have y0 := (hb4.cell (p := ⟨W2.heap.size, 0, none⟩) (cell_lt x0)).trans x0
    have y1 := (hb4.cell (p := ⟨W2.heap.size, 1, none⟩) (cell_lt x1)).trans x1
    have m0 := (hb4.cell (p := ⟨g, 0, none⟩) (cell_lt k0)).trans k0
    have m1 := (hb4.cell (p := ⟨g, 1, none⟩) (cell_lt k1)).trans k1
    clear x0 x1 k0 k1 hW3 hb4 HU2 HU3 HB2 HB3
    go_wp2_with (go_at_call 20; fail)
    refine (decode_no W4 _ _ _ _ _ HU4.out).mono ?_
    rintro e W5 ⟨q5, rfl, hf5, hb5⟩
    have HB5 : Hid (Below w.heap.size w W5) := HB4.out.trans (hb5.mono HB4.out.size)
    have HU5 : Hid (Unmade W5 (.pointer none)) := HU4.out.on hb5
    have z0 := (hb5.cell (p := ⟨W2.heap.size, 0, none⟩) (cell_lt y0)).trans y0
    have z1 := (hb5.cell (p := ⟨W2.heap.size, 1, none⟩) (cell_lt y1)).trans y1
    have p0 := (hb5.cell (p := ⟨g, 0, none⟩) (cell_lt m0)).trans m0
    have p1 := (hb5.cell (p := ⟨g, 1, none⟩) (cell_lt m1)).trans m1
    clear y0 y1 m0 m1 hb5 HU4 HB4
    go_wp2_with (go_at_call 21; fail)
    refine (encode_no W5 _ _ _ HU5.out).mono ?_
    rintro e W6 ⟨q6, rfl, hf6, hb6⟩
    have HB6 : Hid (Below w.heap.size w W6) := HB5.out.trans (hb6.mono HB5.out.size)
    have HU6 : Hid (Unmade W6 (.pointer none)) := HU5.out.on hb6
    have hf5' := hf5.next hb6
    have a0 := (hb6.cell (p := ⟨W2.heap.size, 0, none⟩) (cell_lt z0)).trans z0
    have a1 := (hb6.cell (p := ⟨W2.heap.size, 1, none⟩) (cell_lt z1)).trans z1
    have n0 := (hb6.cell (p := ⟨g, 0, none⟩) (cell_lt p0)).trans p0
    have n1 := (hb6.cell (p := ⟨g, 1, none⟩) (cell_lt p1)).trans p1
    have cI := is_one 3 (by decide) q5 g kk 0 W6 hf5'.1 hf5'.2.1 hf5'.2.2 n0 n1
    clear z0 z1 p0 p1 hb6 HU5 HB5 hf5 hf5'
    go_wp2_with (go_at_call 15; fail)
    refine cI.mono ?_
    rintro e W7 ⟨rfl, hb7⟩
    have HB7 : Hid (Below w.heap.size w W7) := HB6.out.trans (hb7.mono HB6.out.size)
    have HU7 : Hid (Unmade W7 (.pointer none)) := HU6.out.on hb7
    have hf6' := hf6.next hb7
    have b0 := (hb7.cell (p := ⟨W2.heap.size, 0, none⟩) (cell_lt a0)).trans a0
    have b1 := (hb7.cell (p := ⟨W2.heap.size, 1, none⟩) (cell_lt a1)).trans a1
    have o0 := (hb7.cell (p := ⟨g, 0, none⟩) (cell_lt n0)).trans n0
    have o1 := (hb7.cell (p := ⟨g, 1, none⟩) (cell_lt n1)).trans n1
    have cJ := is_one 3 (by decide) q6 g kk 0 W7 hf6'.1 hf6'.2.1 hf6'.2.2 o0 o1
    clear a0 a1 n0 n1 hb7 HU6 HB6 hf6 hf6' cI o0 o1
    go_wp2_with (go_at_call 15; fail)
    refine cJ.mono ?_
    rintro e W8 ⟨rfl, hb8⟩
    have HB8 : Hid (Below w.heap.size w W8) := HB7.out.trans (hb8.mono HB7.out.size)
    have HU8 : Hid (Unmade W8 (.pointer none)) := HU7.out.on hb8
    have c9 := terms_no W8 _ HU8.out
    have c16 := has_no W8 _ r HU8.out
    clear cJ hb8 HU7 b0 b1
    go_wp2_with (first | (go_at_call 9; refine c9.mono ?_; rintro e W ⟨rfl, rfl⟩) | (go_at_call 16; refine c16.mono ?_; rintro e W ⟨rfl, rfl⟩))
    go_ret
    exact ⟨rfl, HB8.out⟩
  | true =>
    obtain ⟨W0, hW0⟩ : ∃ W0, w.alloc (.cells #[.slice none 0 0, .bool false] 55) = W0 := ⟨_, rfl⟩
    have hB0 : Below w.heap.size w W0 := hW0 ▸ (Below.refl _ _).alloc (Nat.le_refl _) _
    have hU0 : Unmade W0 (.pointer (some ⟨w.heap.size, 0, none⟩)) := .inr ⟨_, rfl, by rw [← hW0]; simp⟩
    go_enter Tryd.func7, Tryd.ntmps7
    go_wp2_with (go_at_call 13; fail)
    refine (new_nil W0 (HSp.out.on hB0)).mono ?_
    rintro e W1 ⟨q1, v1, B1, rfl, hs1, hb1⟩
    have HB1 : Hid (Below w.heap.size w W1) := Below.trans hB0 (hb1.mono (Below.size hB0))
    have HU1 : Hid (Unmade W1 (.pointer (some ⟨w.heap.size, 0, none⟩))) := Unmade.on hU0 hb1
    have c16 := has_a W1 q1 v1 _ _ _ hs1
    clear hb1 hs1
    go_wp2_with (first | (go_at_call 16; refine c16.mono ?_; rintro e W ⟨rfl, rfl⟩) | (go_at_call 23; fail))
    refine (zero_any W1).mono ?_
    rintro e W2 ⟨g, kk, rfl, g0, g1, hb2⟩
    have HB2 : Hid (Below w.heap.size w W2) := HB1.out.trans (hb2.mono HB1.out.size)
    have HU2 : Hid (Unmade W2 (.pointer (some ⟨w.heap.size, 0, none⟩))) := HU1.out.on hb2
    obtain ⟨W3, hW3⟩ : ∃ W3, W2.alloc (.cells #[.slice (some ⟨g, 0, none⟩) 1 kk, .int .i64 3] 36) = W3 := ⟨_, rfl⟩
    have hb3 : Below W2.heap.size W2 W3 := hW3 ▸ (Below.refl _ _).alloc (Nat.le_refl _) _
    have HB3 : Hid (Below w.heap.size w W3) := HB2.out.trans (hb3.mono HB2.out.size)
    have HU3 : Hid (Unmade W3 (.pointer (some ⟨w.heap.size, 0, none⟩))) := HU2.out.on hb3
    have x0 : W3.cell? ⟨W2.heap.size, 0, none⟩ = some (.slice (some ⟨g, 0, none⟩) 1 kk) := by rw [← hW3]; simp
    have x1 : W3.cell? ⟨W2.heap.size, 1, none⟩ = some (.int .i64 3) := by rw [← hW3]; simp
    have k0 := (hb3.cell (p := ⟨g, 0, none⟩) (cell_lt g0)).trans g0
    have k1 := (hb3.cell (p := ⟨g, 1, none⟩) (cell_lt g1)).trans g1
    clear c16 HB1 HU1 hb2 hb3 g0 g1
    go_wp2_with (go_at_call 24; fail)
    have hl3 : bs.length ≤ 140737488351232 := by rw [HN.out]; exact hl
    refine (lend_any (HV.out.next HB3.out) hl3).mono ?_
    rw [HN.out]
    rintro e W4 ⟨rfl, -, hb4⟩
    have HB4 : Hid (Below w.heap.size w W4) := HB3.out.trans (hb4.mono HB3.out.size)
    have HU4 : Hid (Unmade W4 (.pointer (some ⟨w.heap.size, 0, none⟩))) := HU3.out.on hb4
    have y0 := (hb4.cell (p := ⟨W2.heap.size, 0, none⟩) (cell_lt x0)).trans x0
    have y1 := (hb4.cell (p := ⟨W2.heap.size, 1, none⟩) (cell_lt x1)).trans x1
    have m0 := (hb4.cell (p := ⟨g, 0, none⟩) (cell_lt k0)).trans k0
    have m1 := (hb4.cell (p := ⟨g, 1, none⟩) (cell_lt k1)).trans k1
    clear x0 x1 k0 k1 hW3 hb4 HU2 HU3 HB2 HB3
    go_wp2_with (go_at_call 20; fail)
    refine (decode_no W4 _ _ _ _ _ HU4.out).mono ?_
    rintro e W5 ⟨q5, rfl, hf5, hb5⟩
    have HB5 : Hid (Below w.heap.size w W5) := HB4.out.trans (hb5.mono HB4.out.size)
    have HU5 : Hid (Unmade W5 (.pointer (some ⟨w.heap.size, 0, none⟩))) := HU4.out.on hb5
    have z0 := (hb5.cell (p := ⟨W2.heap.size, 0, none⟩) (cell_lt y0)).trans y0
    have z1 := (hb5.cell (p := ⟨W2.heap.size, 1, none⟩) (cell_lt y1)).trans y1
    have p0 := (hb5.cell (p := ⟨g, 0, none⟩) (cell_lt m0)).trans m0
    have p1 := (hb5.cell (p := ⟨g, 1, none⟩) (cell_lt m1)).trans m1
    clear y0 y1 m0 m1 hb5 HU4 HB4
    go_wp2_with (go_at_call 21; fail)
    refine (encode_no W5 _ _ _ HU5.out).mono ?_
    rintro e W6 ⟨q6, rfl, hf6, hb6⟩
    have HB6 : Hid (Below w.heap.size w W6) := HB5.out.trans (hb6.mono HB5.out.size)
    have HU6 : Hid (Unmade W6 (.pointer (some ⟨w.heap.size, 0, none⟩))) := HU5.out.on hb6
    have hf5' := hf5.next hb6
    have a0 := (hb6.cell (p := ⟨W2.heap.size, 0, none⟩) (cell_lt z0)).trans z0
    have a1 := (hb6.cell (p := ⟨W2.heap.size, 1, none⟩) (cell_lt z1)).trans z1
    have n0 := (hb6.cell (p := ⟨g, 0, none⟩) (cell_lt p0)).trans p0
    have n1 := (hb6.cell (p := ⟨g, 1, none⟩) (cell_lt p1)).trans p1
    have cI := is_one 3 (by decide) q5 g kk 0 W6 hf5'.1 hf5'.2.1 hf5'.2.2 n0 n1
    clear z0 z1 p0 p1 hb6 HU5 HB5 hf5 hf5'
    go_wp2_with (go_at_call 15; fail)
    refine cI.mono ?_
    rintro e W7 ⟨rfl, hb7⟩
    have HB7 : Hid (Below w.heap.size w W7) := HB6.out.trans (hb7.mono HB6.out.size)
    have HU7 : Hid (Unmade W7 (.pointer (some ⟨w.heap.size, 0, none⟩))) := HU6.out.on hb7
    have hf6' := hf6.next hb7
    have b0 := (hb7.cell (p := ⟨W2.heap.size, 0, none⟩) (cell_lt a0)).trans a0
    have b1 := (hb7.cell (p := ⟨W2.heap.size, 1, none⟩) (cell_lt a1)).trans a1
    have o0 := (hb7.cell (p := ⟨g, 0, none⟩) (cell_lt n0)).trans n0
    have o1 := (hb7.cell (p := ⟨g, 1, none⟩) (cell_lt n1)).trans n1
    have cJ := is_one 3 (by decide) q6 g kk 0 W7 hf6'.1 hf6'.2.1 hf6'.2.2 o0 o1
    clear a0 a1 n0 n1 hb7 HU6 HB6 hf6 hf6' cI o0 o1
    go_wp2_with (go_at_call 15; fail)
    refine cJ.mono ?_
    rintro e W8 ⟨rfl, hb8⟩
    have HB8 : Hid (Below w.heap.size w W8) := HB7.out.trans (hb8.mono HB7.out.size)
    have HU8 : Hid (Unmade W8 (.pointer (some ⟨w.heap.size, 0, none⟩))) := HU7.out.on hb8
    have c9 := terms_no W8 _ HU8.out
    have c16 := has_no W8 _ r HU8.out
    clear cJ hb8 HU7 b0 b1
    go_wp2_with (first | (go_at_call 9; refine c9.mono ?_; rintro e W ⟨rfl, rfl⟩) | (go_at_call 16; refine c16.mono ?_; rintro e W ⟨rfl, rfl⟩))
    go_ret
    exact ⟨rfl, HB8.out⟩
end Go.Proofs.YtmhjjpdfjilobaaDoor
