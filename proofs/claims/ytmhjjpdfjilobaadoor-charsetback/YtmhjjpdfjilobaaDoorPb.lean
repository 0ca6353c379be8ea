import Derived.Test.YtmhjjpdfjilobaaDoorC
import Derived.Lib.Bytealg
import Derived.Shelf.Strings.Search1
/-
  DERIVED. Whether a text of ASCII has a rune.
-/
namespace Go.Proofs.YtmhjjpdfjilobaaDoor
open Go Go.Proofs Go.RowKit

set_option maxRecDepth 100000 in
theorem idx99_any (w : World) (s : ByteArray) (c : Int) : Calls Tryd.prog 99 #[.string s, .int .u8 c] w fun e w' => e = .returned (.int .i64 (Lib.indexByte s.data.toList c.toNat.toUInt8)) ∧ w = w' := by
  go_enter Tryd.func99, Tryd.ntmps99
  go_wp2
  rw [run_callFunc_extern Tryd.func104 (by kernel_rfl) (by kernel_rfl) (by kernel_rfl) (e := Extern.BytealgIndexByte.indexByte) (by kernel_rfl), Lib.run_indexByteString]
  simp only [Result.andThen]
  rw [Oper.upon_value]
  go_wp2
  go_ret
  exact ⟨rfl, rfl⟩

theorem idx92_any (w : World) (s : ByteArray) (c : Int) : Calls Tryd.prog 92 #[.string s, .int .u8 c] w fun e w' => e = .returned (.int .i64 (Lib.indexByte s.data.toList c.toNat.toUInt8)) ∧ w = w' := by
  have h := idx99_any w s c
  go_enter Tryd.func92, Tryd.ntmps92
  go_wp2_with (go_at_call 99; refine h.mono ?_; rintro e w' ⟨rfl, rfl⟩)
  go_ret
  exact ⟨rfl, rfl⟩

set_option maxRecDepth 100000 in
set_option maxHeartbeats 1000000 in
theorem rune_ascii (w : World) (s : ByteArray) (r : Int) (h0 : 0 ≤ r) (h1 : r < 128) : Calls Tryd.prog 87 #[.string s, .int .i32 r] w fun e w' => e = .returned (.int .i64 (Lib.indexByte s.data.toList r.toNat.toUInt8)) ∧ w = w' := by
  have h := idx92_any w s r
  have hm : r % 256 = r := by omega
  go_enter Tryd.func87, Tryd.ntmps87
  go_wp2_with (go_at_call 92; refine h.mono ?_; rintro e w' ⟨rfl, rfl⟩)
  go_ret
  exact ⟨rfl, rfl⟩

/-- Is it a rune? -/
def val (r : Int) : Bool := (decide (0 ≤ r) && decide (r < 55296)) || (decide (57343 < r) && decide (r ≤ 1114111))
theorem val_cases (r : Int) : (val r = true ∧ (0 ≤ r ∧ r < 55296 ∨ 57343 < r ∧ r ≤ 1114111)) ∨ (val r = false ∧ (r < 0 ∨ (0 ≤ r ∧ 55296 ≤ r ∧ r ≤ 57343) ∨ (57343 < r ∧ 1114111 < r))) := by
  cases h : val r with
  | true =>
    unfold val at h
    simp only [Bool.or_eq_true, Bool.and_eq_true, decide_eq_true_eq] at h
    exact .inl ⟨rfl, by omega⟩
  | false =>
    refine .inr ⟨rfl, ?_⟩
    unfold val at h
    simp only [Bool.or_eq_false_iff, Bool.and_eq_false_iff, decide_eq_false_iff_not] at h
    omega
set_option maxRecDepth 100000 in
theorem val_any (w : World) (r : Int) : Calls Tryd.prog 51 #[.int .i32 r] w fun e w' => e = .returned (.bool (val r)) ∧ w = w' := by
  rcases val_cases r with ⟨hw, ⟨h1, h2⟩ | ⟨h1, h2⟩⟩ | ⟨hw, h1 | ⟨h1, h2, h3⟩ | ⟨h1, h2⟩⟩
  · rw [hw]; clear hw
    go_enter Tryd.func51, Tryd.ntmps51
    go_wp2
    go_ret
    exact ⟨rfl, rfl⟩
  · have h3 : 0 ≤ r := by omega
    have h4 : decide (r < 55296) = false := by simp; omega
    rw [hw]; clear hw
    go_enter Tryd.func51, Tryd.ntmps51
    go_wp2
    go_ret
    exact ⟨rfl, rfl⟩
  · have h3 : decide (57343 < r) = false := by simp; omega
    rw [hw]; clear hw
    go_enter Tryd.func51, Tryd.ntmps51
    go_wp2
    go_ret
    exact ⟨rfl, rfl⟩
  · have h4 : decide (57343 < r) = false := by simp; omega
    have h5 : decide (r < 55296) = false := by simp; omega
    rw [hw]; clear hw
    go_enter Tryd.func51, Tryd.ntmps51
    go_wp2
    go_ret
    exact ⟨rfl, rfl⟩
  · have h3 : 0 ≤ r := by omega
    have h4 : decide (r < 55296) = false := by simp; omega
    have h5 : decide (r ≤ 1114111) = false := by simp; omega
    rw [hw]; clear hw
    go_enter Tryd.func51, Tryd.ntmps51
    go_wp2
    go_ret
    exact ⟨rfl, rfl⟩

set_option maxRecDepth 100000 in
set_option maxHeartbeats 1000000 in
/-- What is no rune is nowhere. -/
theorem rune_bad (w : World) (s : ByteArray) (r : Int) (hr : r < 0 ∨ 128 ≤ r) (hv : val r = false) : Calls Tryd.prog 87 #[.string s, .int .i32 r] w fun e w' => e = .returned (.int .i64 (-1)) ∧ w = w' := by
  have c := val_any w r
  rw [hv] at c
  have he : (r == 65533) = false := by
    cases h : (r == 65533) with
    | false => rfl
    | true => simp at h; rw [h] at hv; exact absurd hv (by decide)
  clear hv
  rcases hr with hr | hr
  · go_enter Tryd.func87, Tryd.ntmps87
    go_wp2_with (go_at_call 51; refine c.mono ?_; rintro e w' ⟨rfl, rfl⟩)
    go_ret
    exact ⟨rfl, rfl⟩
  · have h2 : decide (r < 128) = false := by simp; omega
    have h3 : 0 ≤ r := by omega
    go_enter Tryd.func87, Tryd.ntmps87
    go_wp2_with (go_at_call 51; refine c.mono ?_; rintro e w' ⟨rfl, rfl⟩)
    go_ret
    exact ⟨rfl, rfl⟩

end Go.Proofs.YtmhjjpdfjilobaaDoor
