import Derived.Test.YtmhjjpdfjilobaaDoorPb
import Derived.Test.YtmhjjpdfjilobaaDoorE
import Derived.Laws.Runes
import Derived.WalkMore
import Derived.Laws.Strings3
import Derived.BigQuiet
/-
  DERIVED. A text of ASCII has no rune of several bytes.
-/
namespace Go.Proofs.YtmhjjpdfjilobaaDoor
open Go Go.Proofs Go.RowKit

theorem indexByte_none (l : List UInt8) (c : UInt8) (h : ∀ b ∈ l, b ≠ c) : Lib.indexByte l c = -1 := by
  induction l with
  | nil => rfl
  | cons b l ih =>
    unfold Lib.indexByte
    have hb := h b (by simp)
    have := ih (fun x hx => h x (by simp [hx]))
    simp [hb, this]

set_option maxRecDepth 100000 in
set_option maxHeartbeats 1000000 in
/-- A rune of several bytes is in no text of ASCII. -/
theorem rune_high (w : World) (s : ByteArray) (_hz : s.size < 100) (hs : ∀ b ∈ s.data.toList, b.toNat < 128) (r : Int) (hr : 128 ≤ r) (hv : val r = true) (hn : r ≠ 65533) : Calls Tryd.prog 87 #[.string s, .int .i32 r] w fun e w' => e = .returned (.int .i64 (-1)) ∧ Below w.heap.size w w' := by
  have c := val_any w r
  have hu : Utf8.valid r = true := by
    rw [validRune_eq]
    rcases val_cases r with ⟨_, h⟩ | ⟨h, _⟩
    · simpa [validRune] using h
    · rw [h] at hv; exact absurd hv (by decide)
  rw [hv] at c
  have he : (r == 65533) = false := by simpa using hn
  have h2 : decide (r < 128) = false := by simp; omega
  have h3 : 0 ≤ r := by omega
  obtain ⟨f2, f4, fl⟩ := encode_facts r hu hr
  have ek : (convert 21 9 (.int .i32 r)).run Tryd.prog w = .ok (.string (Utf8.encode r)) w := run_convert_int_string w 21 9 .i32 r (by kernel_rfl) (by kernel_rfl)
  generalize Utf8.encode r = z at *
  obtain ⟨n, hzn⟩ : ∃ n, z.size = n + 1 := ⟨z.size - 1, by omega⟩
  have hlt : n < z.size := by omega
  have hi : (z.size : Int) - 1 = (n : Int) := by omega
  have hl : 128 ≤ (z[n]'hlt).toNat := by
    have := fl (by omega)
    have e : z.size - 1 = n := by omega
    simpa [e] using this
  have hn1 : 1 ≤ n := by omega
  have hn4 : n ≤ 3 := by omega
  have hq : ∀ W, Calls Tryd.prog 92 #[.string (s.extract (n + 1) s.size), .int .u8 ((z[n]'hlt).toNat : Int)] W fun e w' => e = .returned (.int .i64 (-1)) ∧ w' = W := by
    intro W
    have hq := idx92_any W (s.extract (n + 1) s.size) ((z[n]'hlt).toNat : Int)
    rw [indexByte_none] at hq
    exact hq.mono fun _ _ h => ⟨h.1, h.2.symm⟩
    intro b hb e
    have := hs b (mem_extract hb)
    rw [e] at this
    simp at this
    omega
  have hne : ∀ h : n < s.size, (((s[n]'h).toNat : Int) == ((z[n]'hlt).toNat : Int)) = false := by
    intro h
    have := hs (s[n]'h) (Array.getElem_mem_toList (xs := s.data) h)
    simp; omega
  have hd2 : (n : Int) < (z.size : Int) := by omega
  have hz4 : (z.size : Int) ≤ 4 := by omega
  clear hv hu fl f2 f4 hs hn hzn
  by_cases hd : n < s.size
  · have hne' := hne hd
    have hd1 : (n : Int) < (s.size : Int) := by omega
    have hw : IntKind.i64.wrap ((n : Int) + 1) = (n : Int) + 1 := wrap_small _ (by omega) (by omega)
    have hd0 : (0 : Int) ≤ (n : Int) + 1 := by omega
    have hd3 : (n : Int) + 1 ≤ (s.size : Int) := by omega
    clear hne
    go_enter Tryd.func87, Tryd.ntmps87
    go_wp2_with (go_at_call 51; refine c.mono ?_; rintro e w' ⟨rfl, rfl⟩)
    go_step3
    go_wp2
    refine wp_loop_rounds 1 ?_
    rw [rounds_succ]
    go_wp2
    go_step3
    go_wp2
    go_quiet (fail)
    go_wp2
    go_quiet ((go_at_call 92; exact (hq _).mono fun _ _ h => ⟨h.1, _, h.2⟩))
    go_wp2
    rw [Exit.noGoto_ret]
    go_wp2
    rw [Exit.noGoto_ret]
    go_ret
    exact ⟨rfl, below_drewN (Below.refl _ _) _⟩
  · have hd1 : ¬ (n : Int) < (s.size : Int) := by omega
    clear hne
    go_enter Tryd.func87, Tryd.ntmps87
    go_wp2_with (go_at_call 51; refine c.mono ?_; rintro e w' ⟨rfl, rfl⟩)
    go_step3
    go_wp2
    refine wp_loop_rounds 1 ?_
    rw [rounds_succ]
    go_wp2
    rw [Exit.noGoto_ret]
    go_ret
    exact ⟨rfl, Below.refl _ _⟩
end Go.Proofs.YtmhjjpdfjilobaaDoor
