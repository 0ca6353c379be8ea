import Derived.Test.YtnheeenkdjmhoaaDoorFb
import Derived.Lib.Bytealg
import Derived.Shelf.Strings.Search1
/-
  DERIVED. The program's escaped; what is printable.
-/
namespace Go.Proofs.YtnheeenkdjmhoaaDoor
open Go Go.Proofs Go.RowKit

set_option maxRecDepth 100000 in
theorem idx47_any (w : World) (s : ByteArray) (c : Int) : Calls Tryd.prog 62 #[.string s, .int .u8 c] w fun e w' => e = .returned (.int .i64 (Lib.indexByte s.data.toList c.toNat.toUInt8)) ∧ w = w' := by
  go_enter Tryd.func62, Tryd.ntmps62
  go_wp2
  rw [run_callFunc_extern Tryd.func68 (by kernel_rfl) (by kernel_rfl) (by kernel_rfl) (e := Extern.BytealgIndexByte.indexByte) (by kernel_rfl), Lib.run_indexByteString]
  simp only [Result.andThen]
  rw [Oper.upon_value]
  go_wp2
  go_ret
  exact ⟨rfl, rfl⟩

theorem idx42_any (w : World) (s : ByteArray) (c : Int) : Calls Tryd.prog 52 #[.string s, .int .u8 c] w fun e w' => e = .returned (.int .i64 (Lib.indexByte s.data.toList c.toNat.toUInt8)) ∧ w = w' := by
  have h := idx47_any w s c
  go_enter Tryd.func52, Tryd.ntmps52
  go_wp2_with (go_at_call 62; refine h.mono ?_; rintro e w' ⟨rfl, rfl⟩)
  go_ret
  exact ⟨rfl, rfl⟩

set_option maxRecDepth 100000 in
set_option maxHeartbeats 1000000 in
theorem rune_ascii (w : World) (s : ByteArray) (r : Int) (h0 : 0 ≤ r) (h1 : r < 128) : Calls Tryd.prog 36 #[.string s, .int .i32 r] w fun e w' => e = .returned (.int .i64 (Lib.indexByte s.data.toList r.toNat.toUInt8)) ∧ w = w' := by
  have h := idx42_any w s r
  have hm : r % 256 = r := by omega
  go_enter Tryd.func36, Tryd.ntmps36
  go_wp2_with (go_at_call 52; refine h.mono ?_; rintro e w' ⟨rfl, rfl⟩)
  go_ret
  exact ⟨rfl, rfl⟩

/-- Bytes that can be printed. -/
def okB (s : ByteArray) : Prop := ∀ k (h : k < s.size), 32 ≤ (s[k]'h).toNat ∧ (s[k]'h).toNat ≤ 126

set_option maxRecDepth 100000 in
set_option maxHeartbeats 2000000 in
theorem prt_any (w : World) (s : ByteArray) : Calls Tryd.prog 18 #[.string s] w fun e w' => ∃ b : Bool, e = .returned (.bool b) ∧ (b = true ↔ okB s) ∧ Below w.heap.size w w' := by
  obtain ⟨B, hB⟩ : ∃ B, w.heap.size = B := ⟨_, rfl⟩
  have HB : Hid (w.heap.size = B) := hB
  go_enter Tryd.func18, Tryd.ntmps18
  go_wp2
  clear hB
  go_loopw [] (fun wr => ∃ (pos : Nat), wr.heap[B]? = some (.stringIter s pos) ∧ Hid (Below B w wr) ∧ Hid (∀ k (h : k < s.size), k < pos → 32 ≤ (s[k]'h).toNat ∧ (s[k]'h).toNat ≤ 126)) (fun wr => s.size - wr.iterPos B)
  case atStart =>
    refine ⟨0, ?_, ?_, fun k h h0 => absurd h0 (Nat.not_lt_zero _)⟩
    · have := World.iter_heap w s 0
      rw [HB.out] at this
      simpa using this
    · exact (Below.refl _ w).alloc (by have := HB.out; omega) _
  case round =>
    obtain ⟨pos, hit, HE, HP⟩ := hrel
    have hsz : B < wr.heap.size := (Array.getElem?_eq_some_iff.1 hit).1
    by_cases hp : pos < s.size
    · have hnx : ∀ ty, (Instr.next (.pointer (some ⟨B, 0, none⟩)) true ty).run Tryd.prog wr = _ := fun ty => Lib.run_next_any_at wr B s pos ty hit hp
      have hit2 := Lib.iterAt_heap wr B s pos (pos + (Utf8.decode s pos).2) hit
      have HB2 : Hid (Below B w (wr.iterAt B s (pos + (Utf8.decode s pos).2))) := Lib.below_iterAt HE.out (k := B) (by omega) s (pos + (Utf8.decode s pos).2)
      by_cases ha : (s[pos]'hp).toNat < 128
      · have hd := decode_ascii s pos hp ha
        rw [hd] at hnx hit2 HB2
        obtain ⟨y, hy⟩ : ∃ y, (s[pos]'hp).toNat = y := ⟨_, rfl⟩
        have HY : Hid ((s[pos]'hp).toNat = y) := hy
        simp only [hy] at hnx hit2 HB2
        clear hd ha hy
        by_cases h1 : y < 32
        · have h1' : decide ((y : Int) < 32) = true := by simp; omega
          go_wp2
          go_ret
          refine ⟨false, rfl, ⟨fun h => by simp at h, fun h => ?_⟩, HB.out ▸ HB2.out⟩
          have := h pos hp; have := HY.out; omega
        · have h1' : decide ((y : Int) < 32) = false := by simp; omega
          by_cases h2 : 126 < y
          · have h2' : decide ((126 : Int) < (y : Int)) = true := by simp; omega
            go_wp2
            go_ret
            refine ⟨false, rfl, ⟨fun h => by simp at h, fun h => ?_⟩, HB.out ▸ HB2.out⟩
            have := h pos hp; have := HY.out; omega
          · have h2' : decide ((126 : Int) < (y : Int)) = false := by simp; omega
            go_wp2
            go_roundw
            case rel =>
              refine ⟨pos + 1, hit2, HB2.out, fun k h h0 => ?_⟩
              by_cases hk : k = pos
              · subst hk; have := HY.out; omega
              · exact HP.out k h (by omega)
            case measure =>
              simp only [World.iterPos, hit2, hit]
              omega
      · have hd := (decode_high s pos hp (by omega)).1
        obtain ⟨y, hy⟩ : ∃ y, (Utf8.decode s pos).1 = y := ⟨_, rfl⟩
        rw [hy] at hnx hd
        have h1' : decide ((y : Int) < 32) = false := by simp; omega
        have h2' : decide ((126 : Int) < (y : Int)) = true := by simp; omega
        go_wp2
        go_ret
        refine ⟨false, rfl, ⟨fun h => by simp at h, fun h => ?_⟩, HB.out ▸ HB2.out⟩
        have := h pos hp; omega
    · have hnx : ∀ ty, (Instr.next (.pointer (some ⟨B, 0, none⟩)) true ty).run Tryd.prog wr = _ := fun ty => Lib.run_next_end_at wr B s pos ty hit hp
      go_wp2
      go_ret
      exact ⟨true, rfl, ⟨fun _ k h => HP.out k h (by omega), fun _ => rfl⟩, HB.out ▸ HE.out⟩
end Go.Proofs.YtnheeenkdjmhoaaDoor
