import Derived.Test.YtngmleddlfkecaaDoorC
namespace Go.Proofs.YtngmleddlfkecaaDoor
open Go Go.Proofs Go.RowKit

/-- The number that bytes are, the low one first. -/
def le : List Nat → Nat
  | [] => 0
  | b :: r => b + 256 * le r

theorem le_lt : ∀ (bs : List Nat), (∀ x ∈ bs, x < 256) → le bs < 256 ^ bs.length
  | [], _ => by simp [le]
  | b :: r, h => by
    have hr := le_lt r (fun x hx => h x (by simp [hx]))
    have hb := h b (by simp)
    simp only [le, List.length_cons, Nat.pow_succ]
    omega

theorem le_drop {bs : List Nat} {k : Nat} (h : k < bs.length) : le (bs.drop k) = bs.getD k 0 + 256 * le (bs.drop (k + 1)) := by
  rw [List.drop_eq_getElem_cons h]
  simp [le, List.getD_eq_getElem?_getD, List.getElem?_eq_getElem h]

theorem or_byte32 (a b i : Nat) (hb : b < 2 ^ i) (hs : 2 ^ i * a + b < 4294967296) : bits .or .u32 (b : Int) ((2 ^ i * a : Nat) : Int) = ((b + 2 ^ i * a : Nat) : Int) := by
  rw [u32_or_nat _ _ (by omega) (by omega), Nat.or_comm, ← Nat.two_pow_add_eq_or_of_lt hb, Nat.add_comm]

theorem or_byte64 (a b : Nat) (hb : b < 256) (hs : 256 * a + b < 18446744073709551616) : bits .or .u64 (IntKind.u64.wrap ((a : Int) * 256)) (IntKind.u64.wrap (b : Int)) = ((b + 256 * a : Nat) : Int) := by
  have e1 : IntKind.u64.wrap ((a : Int) * 256) = ((2 ^ 8 * a : Nat) : Int) := by simp [IntKind.wrap, IntKind.bits, IntKind.signed]; omega
  have e2 : IntKind.u64.wrap (b : Int) = (b : Int) := by simp [IntKind.wrap, IntKind.bits, IntKind.signed]; omega
  rw [e1, e2, u64_or_nat _ _ (by omega) (by omega), ← Nat.two_pow_add_eq_or_of_lt (by omega), Nat.add_comm]

set_option maxRecDepth 100000 in
theorem get32_cells (w : World) (b off n cap : Nat) (y0 y1 y2 y3 : Nat) (hn : 4 ≤ n) (h0 : w.cell? ⟨b, off, none⟩ = some (.int .u8 (y0 : Int))) (h1 : w.cell? ⟨b, off + 1, none⟩ = some (.int .u8 (y1 : Int))) (h2 : w.cell? ⟨b, off + 2, none⟩ = some (.int .u8 (y2 : Int))) (h3 : w.cell? ⟨b, off + 3, none⟩ = some (.int .u8 (y3 : Int)))
    (g0 : Hid (y0 < 256)) (g1 : Hid (y1 < 256)) (g2 : Hid (y2 < 256)) (g3 : Hid (y3 < 256)) :
    Calls Tryd.prog 45 #[.slice (some ⟨b, off, none⟩) n cap] w fun e w' => e = .returned (.int .u32 (y0 + 256 * (y1 + 256 * (y2 + 256 * y3)) : Nat)) ∧ ∃ m, w' = w.drewN m := by
  go_enter Tryd.func45, Tryd.ntmps45
  go_wp2
  go_quiet (fail)
  go_wp2
  go_ret
  have g0 := g0.out
  have g1 := g1.out
  have g2 := g2.out
  have g3 := g3.out
  refine ⟨?_, _, rfl⟩
  have e0 : ((y0 : Int) % 4294967296) = (y0 : Int) := by omega
  have e1 : ((y1 : Int) % 4294967296 * 256 % 4294967296) = ((2 ^ 8 * y1 : Nat) : Int) := by omega
  have e2 : ((y2 : Int) % 4294967296 * 65536 % 4294967296) = ((2 ^ 16 * y2 : Nat) : Int) := by omega
  have e3 : ((y3 : Int) % 4294967296 * 16777216 % 4294967296) = ((2 ^ 24 * y3 : Nat) : Int) := by omega
  rw [e0, e1, e2, e3, or_byte32 y1 y0 8 (by omega) (by omega), or_byte32 y2 _ 16 (by omega) (by omega), or_byte32 y3 _ 24 (by omega) (by omega)]
  show Ending.returned (Value.int IntKind.u32 _) = _
  congr 2
  omega

theorem At.cell4 {w : World} {b off : Nat} {bs : List Nat} (h : At w b off bs) (k : Nat) (hk : k < bs.length) : w.cell? ⟨b, off + k, none⟩ = some (.int .u8 (bs.getD k 0 : Nat)) := h.1 k hk

theorem le4 {bs : List Nat} (h : 4 ≤ bs.length) : le (bs.take 4) = bs.getD 0 0 + 256 * (bs.getD 1 0 + 256 * (bs.getD 2 0 + 256 * bs.getD 3 0)) := by
  match bs, h with
  | a :: b :: c :: d :: r, _ => simp [le]

/-- get32. -/
theorem get32_any {w : World} {v : Value} {bs : List Nat} (h : V w v bs) (hn : 4 ≤ bs.length) :
    Calls Tryd.prog 45 #[v] w fun e w' => e = .returned (.int .u32 (le (bs.take 4) : Nat)) ∧ ∃ m, w' = w.drewN m := by
  rcases h with ⟨a1, c1, rfl, rfl⟩ | ⟨b, off, cap, rfl, hp1, _, h1⟩
  · simp at hn
  · rw [le4 hn]
    exact get32_cells w b off _ cap _ _ _ _ hn (h1.1 0 (by omega)) (h1.1 1 (by omega)) (h1.1 2 (by omega)) (h1.1 3 (by omega)) (getD_lt h1.2 0) (getD_lt h1.2 1) (getD_lt h1.2 2) (getD_lt h1.2 3)

theorem value_empty (w : World) (ao : Option Addr) (cap : Nat) :
    Calls Tryd.prog 32 #[.slice ao 0 cap] w fun e w' => e = .returned (.int .u64 0) ∧ w = w' := by
  go_enter Tryd.func32, Tryd.ntmps32
  go_wp2
  refine wp_loop_rounds 1 ?_
  rw [rounds_succ]
  go_wp2
  go_ret
  exact ⟨rfl, rfl⟩

theorem le_drop_lt {bs : List Nat} (h : ∀ x ∈ bs, x < 256) (hl : bs.length ≤ 8) (k : Nat) (hk : 0 < k) : le (bs.drop k) < 72057594037927936 := by
  have := le_lt (bs.drop k) (fun x hx => h x (List.mem_of_mem_drop hx))
  refine Nat.lt_of_lt_of_le this ?_
  exact Nat.pow_le_pow_right (n := 256) (i := (bs.drop k).length) (j := 7) (by decide) (by simp; omega)

set_option maxRecDepth 100000 in
theorem value_some (w : World) (b off cap : Nat) (bs : List Nat) (hb : At w b off bs) (hl : bs.length ≤ 8) :
    Calls Tryd.prog 32 #[.slice (some ⟨b, off, none⟩) bs.length cap] w fun e w' => e = .returned (.int .u64 (le bs : Nat)) ∧ w = w' := by
  obtain ⟨n, hn⟩ : ∃ n, n = bs.length := ⟨_, rfl⟩
  rw [← hn] at hl
  rw [← hn]
  have HN : Hid (n = bs.length) := hn
  clear hn
  go_enter Tryd.func32, Tryd.ntmps32
  go_wp2
  go_loop [3, 4] (fun s i => ∃ k S : Nat, k ≤ n ∧ i = .int .i64 ((k : Int) - 1) ∧ s = .int .u64 S ∧ Hid (S = le (bs.drop k))) (fun _ i => (intOf i + 1).toNat)
  case atStart => exact ⟨n, 0, Nat.le_refl _, rfl, rfl, by show 0 = _; rw [HN.out, List.drop_length]; rfl⟩
  case round =>
    obtain ⟨k, S, hk, rfl, rfl, HS⟩ := hrel
    by_cases hkn : 0 < k
    · obtain ⟨y, HY, hy, hcy⟩ : ∃ y, Hid (y = bs.getD (k - 1) 0) ∧ Hid (y < 256) ∧ w.cell? ⟨b, off + (k - 1), none⟩ = some (.int .u8 (y : Int)) := ⟨_, rfl, getD_lt hb.2 _, hb.1 (k - 1) (by rw [← HN.out]; omega)⟩
      have hf := or_byte64 S y hy.out (by
        have h1 := le_drop_lt hb.2 (by rw [← HN.out]; exact hl) k hkn
        rw [← HS.out] at h1
        have := hy.out
        omega)
      have HE : Hid (y + 256 * S = le (bs.drop (k - 1))) := by
        show _ = _
        rw [le_drop (k := k - 1) (by rw [← HN.out]; omega), HY.out, HS.out, show k - 1 + 1 = k by omega]
      go_wp2
      exact ⟨⟨k - 1, y + 256 * S, by omega, by congr 1; omega, by congr 1, HE⟩, by simp [intOf]; omega⟩
    · have hk0 : k = 0 := by omega
      subst hk0
      go_wp2
      go_ret
      exact ⟨by rw [HS.out]; rfl, rfl⟩

/-- The document's value. -/
theorem value_any {w : World} {v : Value} {bs : List Nat} (h : V w v bs) (hl : bs.length ≤ 8) :
    Calls Tryd.prog 32 #[v] w fun e w' => e = .returned (.int .u64 (le bs : Nat)) ∧ w = w' := by
  rcases h with ⟨a1, c1, rfl, rfl⟩ | ⟨b1, o1, c1, rfl, hp1, _, h1⟩
  · exact value_empty w a1 c1
  · exact value_some w b1 o1 c1 bs h1 hl
end Go.Proofs.YtngmleddlfkecaaDoor
