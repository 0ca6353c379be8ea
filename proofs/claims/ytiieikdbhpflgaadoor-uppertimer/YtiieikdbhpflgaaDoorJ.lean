import Derived.Test.YtiieikdbhpflgaaDoorE
import Derived.WideMake
import Derived.Room.AppendFits
/-
  DERIVED. Bytes that are lent; the law on sets that New did not give.
-/
namespace Go.Proofs.YtiieikdbhpflgaaDoor
open Go Go.Proofs Go.RowKit

/-- Bytes that lie there. -/
def At (w : World) (b off : Nat) (bs : List Nat) : Prop := (∀ k, k < bs.length → w.cell? ⟨b, off + k, none⟩ = some (.int .u8 (bs.getD k 0 : Nat))) ∧ (∀ x ∈ bs, x < 256)
/-- A slice value, read: these bytes. -/
def V (w : World) (v : Value) (bs : List Nat) : Prop :=
  (∃ ao cap, v = .slice ao 0 cap ∧ bs = []) ∨ (∃ b off cap, v = .slice (some ⟨b, off, none⟩) bs.length cap ∧ 0 < bs.length ∧ bs.length ≤ cap ∧ At w b off bs)

theorem Tryd.info5 : (Tryd.prog.info? 5).map (fun i => (i.zero, i.size, i.bytes)) = some (some (.int .u8 0), 1, 1) := by kernel_rfl

def u8s (bs : List Nat) : List Value := bs.map fun (b : Nat) => Value.int .u8 (b : Int)

/-- Bytes in memory of our own, from block B on. -/
def Own (w : World) (B : Nat) (v : Value) (bs : List Nat) : Prop := w.ownsRow B 5 1 v bs.length (u8s bs) ∧ ∀ x ∈ bs, x < 256

theorem At.next {w w' : World} {b off : Nat} {bs : List Nat} (h : At w b off bs) (hb : Below w.heap.size w w') : At w' b off bs :=
  ⟨fun k hk => (hb.cell (World.block_lt_of_cell? w ⟨b, off + k, none⟩ (h.1 k hk))).trans (h.1 k hk), h.2⟩

theorem V.next {w w' : World} {v : Value} {bs : List Nat} (h : V w v bs) (hb : Below w.heap.size w w') : V w' v bs := by
  rcases h with h | ⟨b, off, cap, rfl, hp, hc, h⟩
  · exact .inl h
  · exact .inr ⟨b, off, cap, rfl, hp, hc, h.next hb⟩

theorem u8s_length (bs : List Nat) : (u8s bs).length = bs.length := by simp [u8s]

theorem u8s_get (bs : List Nat) (k : Nat) (hk : k < bs.length) : (u8s bs)[k]? = some (.int .u8 (bs.getD k 0 : Nat)) := by
  simp [u8s, List.getElem?_eq_getElem hk]

theorem u8s_take_succ {bs : List Nat} {k : Nat} (hk : k < bs.length) : u8s (bs.take k) ++ [.int .u8 (bs.getD k 0 : Nat)] = u8s (bs.take (k + 1)) := by
  rw [List.take_add_one, List.getElem?_eq_getElem hk]
  unfold u8s
  rw [List.map_append, List.getD_eq_getElem?_getD, List.getElem?_eq_getElem hk]
  rfl

theorem u8s_append (a b : List Nat) : u8s (a ++ b) = u8s a ++ u8s b := by simp [u8s]

theorem V.form {w : World} {v : Value} {bs : List Nat} (h : V w v bs) : ∃ ao cap, v = .slice ao bs.length cap ∧ (0 < bs.length → ∃ b off, ao = some ⟨b, off, none⟩ ∧ At w b off bs) ∧ ∀ x ∈ bs, x < 256 := by
  rcases h with ⟨a1, c1, rfl, rfl⟩ | ⟨b1, o1, c1, rfl, hp1, _, h1⟩
  · exact ⟨_, _, rfl, by simp, by simp⟩
  · exact ⟨_, _, rfl, fun _ => ⟨_, _, rfl, h1⟩, h1.2⟩

set_option maxRecDepth 100000 in
/-- Lend. -/
theorem lend_any {w : World} {v : Value} {bs : List Nat} (h : V w v bs) (hl : bs.length ≤ 140737488351232) :
    Calls Tryd.prog 34 #[v] w fun e w' => e = .returned (.slice (some ⟨w.heap.size, 0, none⟩) bs.length (bs.length + 3)) ∧ Own w' w.heap.size (.slice (some ⟨w.heap.size, 0, none⟩) (bs.length + 3) (bs.length + 3)) (bs ++ [160, 161, 162]) ∧ Below w.heap.size w w' := by
  obtain ⟨ao, cap, rfl, hf, hbytes⟩ := h.form
  obtain ⟨n, hn⟩ : ∃ n, n = bs.length := ⟨_, rfl⟩
  rw [← hn] at hl
  rw [← hn]
  have HN : Hid (n = bs.length) := hn
  have HF : Hid (0 < n → ∃ b off, ao = some ⟨b, off, none⟩ ∧ At w b off bs) := by rw [hn]; exact hf
  clear hn hf h
  obtain ⟨i0, hi, hz0, hz1, hz2⟩ := info_parts Tryd.info5
  obtain ⟨B, hB⟩ : ∃ B, w.heap.size = B := ⟨_, rfl⟩
  rw [hB]
  have HB : Hid (B = w.heap.size) := hB.symm
  go_enter Tryd.func34, Tryd.ntmps34
  go_wp2_with (first | (at_make; refine wpList_make_own _ rfl _ _ 102 rfl B 5 i0 (.int .u8 0) 1 Tryd.underlying102 hi hz0 hz1 .i64 .i64 _ (n + 3) rfl rfl ?_ ?_ ?_ ?_ ?_) | fail)
  · omega
  · rw [hz2]; omega
  · unfold maxLen; omega
  · omega
  · intro w1 hown1 hgrow1
    have hbe1 : Below B w w1 := (Below.refl B w).grown hgrow1 (by omega) (by simp)
    clear hgrow1
    go_wp2
    go_loopw [3, 4] (fun v i wr => ∃ k : Nat, k ≤ n ∧ i = .int .i64 k ∧ v = .slice (some ⟨B, 0, none⟩) k (n + 3) ∧ wr.ownsRow B 5 1 (.slice (some ⟨B, 0, none⟩) k (n + 3)) k (u8s (bs.take k)) ∧ Below B w wr) (fun _ i _ => n - (intOf i).toNat)
    case atStart => exact ⟨0, Nat.zero_le _, rfl, rfl, hown1, hbe1⟩
    case round =>
      clear hown1 hbe1
      obtain ⟨k, hk, rfl, rfl, hown, hbe⟩ := hrel
      have HBr : Hid (B ≤ wr.heap.size) := by have := hbe.size; rw [HB.out]; exact this
      by_cases hkn : k < n
      · obtain ⟨b, off, rfl, hb⟩ := HF.out (by omega)
        have hkl : k < bs.length := by rw [← HN.out]; exact hkn
        obtain ⟨y, HY, hcy⟩ : ∃ y, Hid (y = bs.getD k 0) ∧ wr.cell? ⟨b, off + k, none⟩ = some (.int .u8 (y : Int)) := ⟨_, rfl, (hbe.cell (p := ⟨b, off + k, none⟩) (by rw [HB.out]; exact World.block_lt_of_cell? w _ (hb.1 k hkl))).trans (hb.1 k hkl)⟩
        clear hkl
        go_wp2_with (first | (at_builtin; refine wpList_append_fits _ rfl _ _ 102 rfl B 5 i0 1 Tryd.underlying102 hi hz1 B k (n + 3) _ rfl (hown.alloc _) ⟨wr.heap.size, 0, none⟩ 1 1 [.int .u8 (y : Int)] rfl rfl ?_ ?_ ?_ ?_) | fail)
        · exact cell_one_new _ _ _
        · intro u hu; simp at hu; subst hu; rfl
        · omega
        · intro w2 hown' hgrow
          have hbe' : Below B w w2 := (hbe.alloc HBr.out _).grown hgrow (by have := HBr.out; simp; omega) (fun j hj => by cases hj; omega)
          rw [HY.out, u8s_take_succ (by rw [← HN.out]; exact hkn)] at hown'
          clear hgrow hown hcy
          go_wp2
          go_roundw
          case rel => exact ⟨k + 1, by omega, by go_num, rfl, hown', hbe'⟩
          case measure => simp [intOf]; omega
      · have hkn' : k = n := by omega
        subst hkn'
        rw [HN.out, List.take_length, ← HN.out] at hown
        go_wp2
        go_loopw [3, 5] (fun v i wr => ∃ j : Nat, j ≤ 3 ∧ i = .int .i64 j ∧ v = .slice (some ⟨B, 0, none⟩) (k + j) (k + 3) ∧ wr.ownsRow B 5 1 (.slice (some ⟨B, 0, none⟩) (k + j) (k + 3)) (k + j) (u8s (bs ++ [160, 161, 162].take j)) ∧ Below B w wr) (fun _ i _ => 3 - (intOf i).toNat)
        case atStart => exact ⟨0, by omega, rfl, rfl, by simpa using hown, hbe⟩
        case round =>
          clear hown hbe HBr
          obtain ⟨j, hj, rfl, rfl, hown, hbe⟩ := hrel
          have HBr : Hid (B ≤ wr.heap.size) := by have := hbe.size; rw [HB.out]; exact this
          by_cases hj3 : j < 3
          · have hm : (160 + (j : Int)) % 256 = 160 + (j : Int) := by omega
            go_wp2_with (first | (at_builtin; refine wpList_append_fits _ rfl _ _ 102 rfl B 5 i0 1 Tryd.underlying102 hi hz1 B (k + j) (k + 3) _ rfl (hown.alloc _) ⟨wr.heap.size, 0, none⟩ 1 1 [.int .u8 (160 + (j : Int))] rfl rfl ?_ ?_ ?_ ?_) | fail)
            · exact cell_one_new _ _ _
            · intro u hu; simp at hu; subst hu; rfl
            · omega
            · intro w2 hown' hgrow
              have hbe' : Below B w w2 := (hbe.alloc HBr.out _).grown hgrow (by have := HBr.out; simp; omega) (fun j hj => by cases hj; omega)
              have he : u8s (bs ++ [160, 161, 162].take j) ++ [.int .u8 (160 + (j : Int))] = u8s (bs ++ [160, 161, 162].take (j + 1)) := by
                rw [u8s_append, u8s_append, List.append_assoc]
                congr 1
                rcases (show j = 0 ∨ j = 1 ∨ j = 2 by omega) with rfl | rfl | rfl <;> rfl
              rw [he] at hown'
              clear hgrow hown hm he
              go_wp2
              go_roundw
              case rel => exact ⟨j + 1, by omega, by go_num, by congr 1, hown', hbe'⟩
              case measure => simp [intOf]; omega
          · have hj' : j = 3 := by omega
            subst hj'
            go_wp2
            go_ret
            refine ⟨rfl, ⟨?_, ?_⟩, hbe⟩
            · simpa [← HN.out] using hown
            · intro x hx
              rcases List.mem_append.1 hx with hx | hx
              · exact hbytes x hx
              · simp at hx; omega


set_option maxRecDepth 100000 in
/-- A copy of bytes. -/
theorem copyB_any {w : World} {v : Value} {bs : List Nat} (h : V w v bs) (hl : bs.length ≤ 140737488351232) :
    Calls Tryd.prog 40 #[v] w fun e w' => ∃ u, e = .returned u ∧ Own w' w.heap.size u bs ∧ Below w.heap.size w w' := by
  obtain ⟨ao, cap, rfl, hf, hbytes⟩ := h.form
  obtain ⟨n, hn⟩ : ∃ n, n = bs.length := ⟨_, rfl⟩
  rw [← hn] at hl
  rw [← hn]
  have HN : Hid (n = bs.length) := hn
  have HF : Hid (0 < n → ∃ b off, ao = some ⟨b, off, none⟩ ∧ At w b off bs) := by rw [hn]; exact hf
  clear hn hf h
  obtain ⟨i0, hi, hz0, hz1, hz2⟩ := info_parts Tryd.info5
  obtain ⟨B, hB⟩ : ∃ B, w.heap.size = B := ⟨_, rfl⟩
  rw [hB]
  have HB : Hid (B = w.heap.size) := hB.symm
  go_enter Tryd.func40, Tryd.ntmps40
  go_wp2
  go_loopw [3, 4] (fun v i wr => ∃ k : Nat, k ≤ n ∧ i = .int .i64 k ∧ wr.ownsRow B 5 1 v k (u8s (bs.take k)) ∧ Below B w wr) (fun _ i _ => n - (intOf i).toNat)
  case atStart => exact ⟨0, Nat.zero_le _, rfl, by simpa [u8s] using World.ownsRow_nil w B 5 1, Below.refl _ _⟩
  case round =>
    obtain ⟨k, hk, rfl, hown, hbe⟩ := hrel
    have HBr : Hid (B ≤ wr.heap.size) := by have := hbe.size; rw [HB.out]; exact this
    by_cases hkn : k < n
    · obtain ⟨b, off, rfl, hb⟩ := HF.out (by omega)
      have hkl : k < bs.length := by rw [← HN.out]; exact hkn
      obtain ⟨y, HY, hcy⟩ : ∃ y, Hid (y = bs.getD k 0) ∧ wr.cell? ⟨b, off + k, none⟩ = some (.int .u8 (y : Int)) := ⟨_, rfl, (hbe.cell (p := ⟨b, off + k, none⟩) (by rw [HB.out]; exact World.block_lt_of_cell? w _ (hb.1 k hkl))).trans (hb.1 k hkl)⟩
      clear hkl
      go_wp2_with (first | (at_builtin; refine wpList_append_own _ rfl (.tmp 11) (.tmp 16) 102 rfl B 5 i0 _ 1 1 Tryd.underlying102 hi hz0 hz1 hz2 rfl (by decide) u3 k (u8s (bs.take k)) rfl (hown.alloc _) ⟨wr.heap.size, 0, none⟩ 1 1 [.int .u8 (y : Int)] rfl rfl ?_ ?_ ?_ ?_ ?_ ?_) | fail)
      · exact cell_one_new _ _ _
      · intro u hu; simp at hu; subst hu; rfl
      · unfold maxLen; omega
      · omega
      · have := HBr.out; simp; omega
      · intro v' w2 hown' hgrow _
        have hbe' : Below B w w2 := (hbe.alloc HBr.out _).grown hgrow (by have := HBr.out; simp; omega) (fun j hj => (hown.lt j hj).1)
        rw [HY.out, u8s_take_succ (by rw [← HN.out]; exact hkn)] at hown'
        clear hgrow hown hcy
        go_wp2
        go_roundw
        case rel => exact ⟨k + 1, by omega, by go_num, hown', hbe'⟩
        case measure => simp [intOf]; omega
    · have hkn' : k = n := by omega
      subst hkn'
      rw [HN.out, List.take_length] at hown
      go_wp2
      go_ret
      exact ⟨_, rfl, ⟨hown, hbytes⟩, hbe⟩
end Go.Proofs.YtiieikdbhpflgaaDoor
