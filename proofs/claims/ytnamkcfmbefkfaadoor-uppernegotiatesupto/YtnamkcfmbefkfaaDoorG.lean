import Derived.Test.YtnamkcfmbefkfaaDoorE
import Derived.WideMake
import Derived.Room.AppendFits
import Derived.Test.YtnamkcfmbefkfaaDoorD
namespace Go.Proofs.YtnamkcfmbefkfaaDoor
open Go Go.Proofs Go.RowKit
def At (w : World) (b off : Nat) (bs : List Nat) : Prop := (∀ k, k < bs.length → w.cell? ⟨b, off + k, none⟩ = some (.int .u8 (bs.getD k 0 : Nat))) ∧ (∀ x ∈ bs, x < 256)
def V (w : World) (v : Value) (bs : List Nat) : Prop :=
  (∃ ao cap, v = .slice ao 0 cap ∧ bs = []) ∨ (∃ b off cap, v = .slice (some ⟨b, off, none⟩) bs.length cap ∧ 0 < bs.length ∧ bs.length ≤ cap ∧ At w b off bs)
theorem Tryd.info5 : (Tryd.prog.info? 5).map (fun i => (i.zero, i.size, i.bytes)) = some (some (.int .u8 0), 1, 1) := by kernel_rfl
def u8s (bs : List Nat) : List Value := bs.map fun (b : Nat) => Value.int .u8 (b : Int)
def Own (w : World) (B : Nat) (v : Value) (bs : List Nat) : Prop := w.ownsRow B 5 1 v bs.length (u8s bs) ∧ ∀ x ∈ bs, x < 256
theorem At.next {w w' : World} {b off : Nat} {bs : List Nat} (h : At w b off bs) (hb : Below w.heap.size w w') : At w' b off bs :=
  ⟨fun k hk => (hb.cell (World.block_lt_of_cell? w ⟨b, off + k, none⟩ (h.1 k hk))).trans (h.1 k hk), h.2⟩
theorem V.next {w w' : World} {v : Value} {bs : List Nat} (h : V w v bs) (hb : Below w.heap.size w w') : V w' v bs := by
  rcases h with h | ⟨b, off, cap, rfl, hp, hc, h⟩
  · exact .inl h
  · exact .inr ⟨b, off, cap, rfl, hp, hc, h.next hb⟩
theorem u8s_length (bs : List Nat) : (u8s bs).length = bs.length := by simp [u8s]
theorem u8s_get (bs : List Nat) (k : Nat) (hk : k < bs.length) : (u8s bs)[k]? = some (.int .u8 (bs.getD k 0 : Nat)) := by
  simp [u8s, List.getElem?_eq_getElem hk]
theorem u8s_take_succ {bs : List Nat} {k : Nat} (hk : k < bs.length) : u8s (bs.take k) ++ [.int .u8 (bs.getD k 0 : Nat)] = u8s (bs.take (k + 1)) := by
  rw [List.take_add_one, List.getElem?_eq_getElem hk]
  unfold u8s
  rw [List.map_append, List.getD_eq_getElem?_getD, List.getElem?_eq_getElem hk]
  rfl
theorem V.form {w : World} {v : Value} {bs : List Nat} (h : V w v bs) : ∃ ao cap, v = .slice ao bs.length cap ∧ (0 < bs.length → ∃ b off, ao = some ⟨b, off, none⟩ ∧ At w b off bs) ∧ ∀ x ∈ bs, x < 256 := by
  rcases h with ⟨a1, c1, rfl, rfl⟩ | ⟨b1, o1, c1, rfl, hp1, _, h1⟩
  · exact ⟨_, _, rfl, by simp, by simp⟩
  · exact ⟨_, _, rfl, fun _ => ⟨_, _, rfl, h1⟩, h1.2⟩
set_option maxRecDepth 100000 in
theorem copyB_any {w : World} {v : Value} {bs : List Nat} (h : V w v bs) (hl : bs.length ≤ 140737488351232) :
    Calls Tryd.prog 11 #[v] w fun e w' => ∃ u, e = .returned u ∧ Own w' w.heap.size u bs ∧ Below w.heap.size w w' := by
  obtain ⟨ao, cap, rfl, hf, hbytes⟩ := h.form
  obtain ⟨n, hn⟩ : ∃ n, n = bs.length := ⟨_, rfl⟩
  rw [← hn] at hl
  rw [← hn]
  have HN : Hid (n = bs.length) := hn
  have HF : Hid (0 < n → ∃ b off, ao = some ⟨b, off, none⟩ ∧ At w b off bs) := by rw [hn]; exact hf
  clear hn hf h
  obtain ⟨i0, hi, hz0, hz1, hz2⟩ := info_parts Tryd.info5
  obtain ⟨B, hB⟩ : ∃ B, w.heap.size = B := ⟨_, rfl⟩
  rw [hB]
  have HB : Hid (B = w.heap.size) := hB.symm
  go_enter Tryd.func11, Tryd.ntmps11
  go_wp2
  go_loopw [3, 4] (fun v i wr => ∃ k : Nat, k ≤ n ∧ i = .int .i64 k ∧ wr.ownsRow B 5 1 v k (u8s (bs.take k)) ∧ Below B w wr) (fun _ i _ => n - (intOf i).toNat)
  case atStart => exact ⟨0, Nat.zero_le _, rfl, by simpa [u8s] using World.ownsRow_nil w B 5 1, Below.refl _ _⟩
  case round =>
    obtain ⟨k, hk, rfl, hown, hbe⟩ := hrel
    have HBr : Hid (B ≤ wr.heap.size) := by have := hbe.size; rw [HB.out]; exact this
    by_cases hkn : k < n
    · obtain ⟨b, off, rfl, hb⟩ := HF.out (by omega)
      have hkl : k < bs.length := by rw [← HN.out]; exact hkn
      obtain ⟨y, HY, hcy⟩ : ∃ y, Hid (y = bs.getD k 0) ∧ wr.cell? ⟨b, off + k, none⟩ = some (.int .u8 (y : Int)) := ⟨_, rfl, (hbe.cell (p := ⟨b, off + k, none⟩) (by rw [HB.out]; exact World.block_lt_of_cell? w _ (hb.1 k hkl))).trans (hb.1 k hkl)⟩
      clear hkl
      go_wp2_with (first | (at_builtin; refine wpList_append_own _ rfl (.tmp 11) (.tmp 16) 55 rfl B 5 i0 _ 1 1 Tryd.underlying55 hi hz0 hz1 hz2 rfl (by decide) u3 k (u8s (bs.take k)) rfl (hown.alloc _) ⟨wr.heap.size, 0, none⟩ 1 1 [.int .u8 (y : Int)] rfl rfl ?_ ?_ ?_ ?_ ?_ ?_) | fail)
      · exact cell_one_new _ _ _
      · intro u hu; simp at hu; subst hu; rfl
      · unfold maxLen; omega
      · omega
      · have := HBr.out; simp; omega
      · intro v' w2 hown' hgrow _
        have hbe' : Below B w w2 := (hbe.alloc HBr.out _).grown hgrow (by have := HBr.out; simp; omega) (fun j hj => (hown.lt j hj).1)
        rw [HY.out, u8s_take_succ (by rw [← HN.out]; exact hkn)] at hown'
        clear hgrow hown hcy
        go_wp2
        go_roundw
        case rel => exact ⟨k + 1, by omega, by go_num, hown', hbe'⟩
        case measure => simp [intOf]; omega
    · have hkn' : k = n := by omega
      subst hkn'
      rw [HN.out, List.take_length] at hown
      go_wp2
      go_ret
      exact ⟨_, rfl, ⟨hown, hbytes⟩, hbe⟩
end Go.Proofs.YtnamkcfmbefkfaaDoor

namespace Go.Proofs.YtnamkcfmbefkfaaDoor
open Go Go.Proofs Go.RowKit
def Pd (k : Int) (c : Fin 18 → Value) : Array Value := #[.int .i64 k, c 0, c 1, c 2, c 3, c 4, c 5, c 6, c 7, c 8, c 9, c 10, c 11, c 12, c 13, c 14, c 15, c 16, c 17]
end Go.Proofs.YtnamkcfmbefkfaaDoor
