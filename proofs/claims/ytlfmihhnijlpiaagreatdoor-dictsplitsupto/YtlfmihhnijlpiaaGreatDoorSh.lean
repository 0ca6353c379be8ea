import Derived.Test.YtlfmihhnijlpiaaGreatDoorSe
import Derived.Test.YtlfmihhnijlpiaaGreatDoorSf
import Derived.Test.YtlfmihhnijlpiaaGreatDoorSg
/-
  DERIVED. The program's Split.
-/
namespace Go.Proofs.YtlfmihhnijlpiaaGreatDoor.Sp
open Go Go.Proofs Go.RowKit
open Wk (cell_lt own_keep Stop)

theorem unit_ok : ∀ k : Fin 29, Rp.mu k.val = true → Rp.tx k.val = false → 1 ≤ Rp.un k.val ∧ Rp.un k.val ≤ 1000 := by decide +kernel
/-- The values of an element. -/
def spT (v : Int) (s : ByteArray) : List ByteArray :=
  if okV v = false ∨ s.size = 0 then [] else if Rp.mu (Rp.vn v) = false then [s] else if Rp.tx (Rp.vn v) = true then spB s else pcs s (Rp.un (Rp.vn v)).toNat 0
theorem spT_len (v : Int) (s : ByteArray) : (spT v s).length ≤ s.size + 1 := by
  unfold spT
  by_cases h : okV v = false ∨ s.size = 0
  · rw [if_pos h]; simp
  · rw [if_neg h]
    by_cases h2 : Rp.mu (Rp.vn v) = false
    · rw [if_pos h2]; simp
    · rw [if_neg h2]
      by_cases h3 : Rp.tx (Rp.vn v) = true
      · rw [if_pos h3]; exact spB_len s
      · rw [if_neg h3]
        have := unit_ok ⟨Rp.vn v, Rp.vn_lt v⟩ (by simpa using h2) (by simpa using h3)
        simp only at this
        exact pcs_len s _ (by omega) s.size 0
theorem empty_of {s : ByteArray} (h : s.size = 0) : s = { data := #[] } := by
  cases s with
  | mk d => cases d with
    | mk l => cases l with
      | nil => rfl
      | cons a l => simp [ByteArray.size] at h
theorem beq_no {s : ByteArray} (h : s.size ≠ 0) : (s.toList == ([] : List UInt8)) = false := by
  rw [ByteArray.toList_eq]
  cases hl : s.data.toList with
  | nil => exact absurd (show s.size = 0 by show s.data.size = 0; rw [← Array.length_toList, hl]; rfl) h
  | cons a l => rfl

theorem lit_own {w : World} {o : Obj} {B : Nat} (h : B ≤ w.heap.size) (T : List ByteArray) (hT : T.length ≤ 100000000) : ((w.alloc o).alloc (.cells (T.map Value.string).toArray 9)).ownsRow B 9 1 (.slice (some ⟨w.heap.size + 1, 0, none⟩) T.length T.length) T.length (u8s T) := by
  have := World.ownsRow_lit (base := B) (e := 9) (size := 1) (w.alloc o) (T.map Value.string).toArray T.length (by rw [Wk.size_alloc]; omega) (by unfold maxLen; omega) (by simp)
  rw [Wk.size_alloc] at this
  exact this
theorem below2 {B : Nat} {W w : World} (hb : Below B W w) (h : B ≤ w.heap.size) (o1 o2 : Obj) : Below B W ((w.alloc o1).alloc o2) := (hb.alloc h o1).alloc (by rw [Wk.size_alloc]; omega) o2
theorem pc_end {B : Nat} {W w w2 : World} {o : Obj} {x : Value} {T : List ByteArray} (hb : Below B W w) (h : B ≤ w.heap.size) (h2 : w2.ownsRow (w.alloc o).heap.size 9 1 x T.length (u8s T) ∧ Below (w.alloc o).heap.size (w.alloc o) w2) : w2.ownsRow B 9 1 x T.length (u8s T) ∧ Below B W w2 :=
  ⟨Wk.own_base h2.1 (by rw [Wk.size_alloc]; omega), (hb.alloc h o).trans (h2.2.mono (by rw [Wk.size_alloc]; omega))⟩

set_option maxRecDepth 100000 in
set_option maxHeartbeats 4000000 in
theorem split_any (W : World) (v : Int) (s : ByteArray) (hs : s.size ≤ 8000000) :
    Calls Tryz.prog 4 #[.int .i64 v, .string s] W fun e w' => ∃ x, e = .returned x ∧ Hid (w'.ownsRow W.heap.size 9 1 x (spT v s).length (u8s (spT v s)) ∧ Below W.heap.size W w' ∧ (spT v s = [] → x = .slice none 0 0)) := by
  obtain ⟨n, p, u, m, t, c, q, l, cf, ff, ⟨hcf, hff⟩, hv, c12⟩ := values_any W v
  obtain ⟨B, hB⟩ : ∃ B, W.heap.size = B := ⟨_, rfl⟩
  rw [hB] at c12 ⊢
  have hS : ∀ T, spT v s = T → Calls Tryz.prog 4 #[.int .i64 v, .string s] W (fun e w' => ∃ x, e = .returned x ∧ Hid (w'.ownsRow B 9 1 x T.length (u8s T) ∧ Below B W w' ∧ (T = [] → x = .slice none 0 0))) → Calls Tryz.prog 4 #[.int .i64 v, .string s] W fun e w' => ∃ x, e = .returned x ∧ Hid (w'.ownsRow B 9 1 x (spT v s).length (u8s (spT v s)) ∧ Below B W w' ∧ (spT v s = [] → x = .slice none 0 0)) := fun T h h2 => by rw [h]; exact h2
  by_cases hok : okV v = false
  · refine hS [] (by unfold spT; rw [if_pos (.inl hok)]) ?_
    rw [hok] at c12
    clear hS hv hok
    rcases hcf with rfl | ⟨j, rfl⟩ <;> rcases hff with rfl | ⟨j2, rfl⟩
    all_goals go_enter Tryz.func4, Tryz.ntmps4
    all_goals go_wp2_with (go_at_call 12; refine c12.mono ?_; rintro e w' ⟨rfl, hb⟩)
    all_goals go_ret
    all_goals exact ⟨_, rfl, World.ownsRow_nil _ _ _ _, hb.out.alloc (by rw [← hB]; exact hb.out.size) _, fun _ => rfl⟩
  · replace hok : okV v = true := by simpa using hok
    obtain ⟨hu, ht, hq⟩ := hv hok
    rw [hok] at c12
    by_cases h0 : s.size = 0
    · refine hS [] (by unfold spT; rw [if_pos (.inr h0)]) ?_
      have hse := empty_of h0
      subst hse
      clear hS hu ht hq hok h0
      rcases hcf with rfl | ⟨j, rfl⟩ <;> rcases hff with rfl | ⟨j2, rfl⟩
      all_goals go_enter Tryz.func4, Tryz.ntmps4
      all_goals go_wp2_with (go_at_call 12; refine c12.mono ?_; rintro e w' ⟨rfl, hb⟩)
      all_goals go_ret
      all_goals exact ⟨_, rfl, World.ownsRow_nil _ _ _ _, hb.out.alloc (by rw [← hB]; exact hb.out.size) _, fun _ => rfl⟩
    · have hbe := beq_no h0
      by_cases hm : q = false
      · refine hS [s] (by unfold spT; rw [if_neg (by rw [hok]; simp [h0]), if_pos (by rw [← hq, hm])]) ?_
        subst hm
        clear hS hu ht hq hok h0
        rcases hcf with rfl | ⟨j, rfl⟩ <;> rcases hff with rfl | ⟨j2, rfl⟩
        all_goals go_enter Tryz.func4, Tryz.ntmps4
        all_goals go_wp2_with (go_at_call 12; refine c12.mono ?_; rintro e w' ⟨rfl, hb⟩)
        all_goals go_ret
        all_goals exact ⟨_, rfl, lit_own (by rw [← hB]; exact hb.out.size) [s] (by simp), below2 hb.out (by rw [← hB]; exact hb.out.size) _ _, fun h => by cases h⟩
      · replace hm : q = true := by simpa using hm
        by_cases htx : t = true
        · refine hS (spB s) (by unfold spT; rw [if_neg (by rw [hok]; simp [h0]), if_neg (by rw [← hq, hm]; simp), if_pos (by rw [← ht, htx])]) ?_
          have c13 := fun w => str_split s w hs
          have hne := spB_ne s
          have hl := spB_len s
          generalize spB s = T at *
          subst hm htx
          clear hS hu ht hq hok h0
          have HN : Hid _ := hne
          clear hne
          rcases hcf with rfl | ⟨j, rfl⟩ <;> rcases hff with rfl | ⟨j2, rfl⟩
          all_goals go_enter Tryz.func4, Tryz.ntmps4
          all_goals go_wp2_with (first | (go_at_call 12; refine c12.mono ?_; rintro e w' ⟨rfl, hb⟩) | (go_at_call 13; refine (c13 _).mono ?_; rintro e w' ⟨rfl, rfl⟩))
          all_goals go_ret
          all_goals exact ⟨_, rfl, lit_own (by rw [← hB]; exact hb.out.size) T (by omega), below2 hb.out (by rw [← hB]; exact hb.out.size) _ _, fun h => absurd h HN.out⟩
        · replace htx : t = false := by simpa using htx
          have hun := unit_ok ⟨Rp.vn v, Rp.vn_lt v⟩ (by rw [← hm, hq]) (by rw [← htx, ht])
          simp only at hun
          rw [← hu] at hun
          obtain ⟨k, hk⟩ : ∃ k : Nat, u = (k : Int) := ⟨u.toNat, by omega⟩
          refine hS (pcs s k 0) (by unfold spT; rw [if_neg (by rw [hok]; simp [h0]), if_neg (by rw [← hq, hm]; simp), if_neg (by rw [← ht, htx]; simp), ← hu, hk]; rfl) ?_
          subst hk
          have c14 := fun w => pieces_any w s k (by omega) (by omega) hs
          have hne : pcs s k 0 ≠ [] := by
            by_cases h : 0 + k < s.size
            · rw [pcs_more (by omega) h]; simp
            · rw [pcs_last h]; simp
          generalize pcs s k 0 = T at *
          subst hm htx
          clear hS hu ht hq hok h0
          rcases hcf with rfl | ⟨j, rfl⟩ <;> rcases hff with rfl | ⟨j2, rfl⟩
          all_goals go_enter Tryz.func4, Tryz.ntmps4
          all_goals go_wp2_with (first | (go_at_call 12; refine c12.mono ?_; rintro e w' ⟨rfl, hb⟩) | (go_at_call 14; refine (c14 _).mono ?_; rintro e w2 ⟨x, rfl, hb2⟩))
          all_goals go_ret
          all_goals obtain ⟨k1, k2⟩ := pc_end hb.out (by rw [← hB]; exact hb.out.size) hb2.out
          all_goals exact ⟨_, rfl, k1, k2, fun h => absurd h hne⟩
end Go.Proofs.YtlfmihhnijlpiaaGreatDoor.Sp
