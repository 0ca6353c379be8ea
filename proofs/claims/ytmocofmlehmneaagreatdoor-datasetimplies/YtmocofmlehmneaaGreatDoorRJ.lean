
import Derived.Test.YtmocofmlehmneaaGreatDoorRI
/-
  DERIVED. The document's padding; the law.
-/
namespace Go.Proofs.YtmocofmlehmneaaGreatDoor.Rp
open Go Go.Proofs Go.RowKit

theorem rabout_open (w : World) (v : Int) : Calls Tryz.prog 44 #[.int .i64 v] w fun e w' => e = .returned (.tuple #[.agg #[.string (nm (vn v)), .int .u8 (pd (vn v)), .int .i64 (un (vn v)), .int .i64 (mo (vn v)), .bool (tx (vn v)), .bool (ch (vn v)), .bool (mu (vn v)), .bool (lo (vn v))], .bool (decide (1 ≤ v ∧ v ≤ 28))]) ∧ Below w.heap.size w w' := rabout_any w v

theorem get_list (s : ByteArray) (k : Nat) (h : k < s.size) : s[k] = s.data.toList.getD k 1 := by
  have h2 : k < s.data.size := h
  show s.data[k] = _
  simp [List.getD_eq_getElem?_getD, Array.getElem?_eq_getElem h2]

set_option maxRecDepth 100000 in
theorem rpad_any (w : World) (v : Int) (s : ByteArray) (hs : s.size ≤ 140737488351232) : Calls Tryz.prog 24 #[.int .i64 v, .string s] w fun e w' => e = .returned (.string (padB (pd (vn v)) s)) ∧ Below w.heap.size w w' := by
  have c := rabout_open w v
  have hp2 := pd_two ⟨vn v, vn_lt v⟩
  simp only at hp2
  generalize nm (vn v) = n at c
  generalize pd (vn v) = p at c hp2 ⊢
  generalize un (vn v) = u at c
  generalize mo (vn v) = m at c
  generalize tx (vn v) = t at c
  generalize ch (vn v) = c' at c
  generalize mu (vn v) = q at c
  generalize lo (vn v) = l at c
  generalize decide (1 ≤ v ∧ v ≤ 28) = b at c
  by_cases he : s.size % 2 = 0
  · have hP : padB p s = s := by unfold padB; rw [if_pos he]
    rw [hP]
    have hi : ((s.size : Int) % 2 == 0) = true := by simp; omega
    go_enter Tryz.func24, Tryz.ntmps24
    go_wp2
    go_ret
    exact ⟨rfl, Below.refl _ _⟩
  · have hP : padB p s = s ++ (if p = 32 then ⟨#[32]⟩ else ⟨#[0]⟩) := by unfold padB; rw [if_neg he]
    rw [hP]
    have hi : ((s.size : Int) % 2 == 0) = false := by simp; omega
    have hz : (⟨#[32]⟩ : ByteArray).size = 1 := rfl
    have hz0 : (⟨#[0]⟩ : ByteArray).size = 1 := rfl
    clear hP
    rcases hp2 with rfl | rfl
    all_goals go_enter Tryz.func24, Tryz.ntmps24
    all_goals go_wp2_with (first | (go_at_call 44; refine c.mono ?_; rintro e W1 ⟨rfl, hb⟩) | fail)
    all_goals go_ret
    all_goals exact ⟨rfl, hb.alloc hb.size _⟩

set_option maxRecDepth 100000 in
theorem rtrim_any (w : World) (v : Int) (s : ByteArray) (hs : s.size ≤ 140737488351232) : Calls Tryz.prog 23 #[.int .i64 v, .string s] w fun e w' => e = .returned (.string (if tx (vn v) then trimB s else s)) ∧ Below w.heap.size w w' := by
  have c := rabout_open w v
  generalize nm (vn v) = n at c
  generalize pd (vn v) = p at c
  generalize un (vn v) = u at c
  generalize mo (vn v) = m at c
  generalize tx (vn v) = t at c ⊢
  generalize ch (vn v) = c' at c
  generalize mu (vn v) = q at c
  generalize lo (vn v) = l at c
  generalize decide (1 ≤ v ∧ v ≤ 28) = b at c
  obtain ⟨R, hR⟩ : ∃ R, trimN s.data.toList s.size = R := ⟨_, rfl⟩
  have HT : Hid (trimB s = s.extract 0 R) := by show _ = _; rw [← hR]; rfl
  have HR : Hid (trimN s.data.toList s.size = R) := hR
  clear hR
  cases t with
  | false =>
    go_enter Tryz.func23, Tryz.ntmps23
    go_wp2_with (first | (go_at_call 44; refine c.mono ?_; rintro e W1 ⟨rfl, hb⟩) | fail)
    go_loop [7] (fun x => x = .int .i64 (s.size : Nat)) (fun x => 0)
    case atStart => rfl
    case round =>
      obtain rfl := hrel
      go_wp2
      go_ret
      exact ⟨rfl, hb.alloc hb.size _⟩
  | true =>
    go_enter Tryz.func23, Tryz.ntmps23
    go_wp2_with (first | (go_at_call 44; refine c.mono ?_; rintro e W1 ⟨rfl, hb⟩) | fail)
    go_loop [7] (fun x => ∃ k : Nat, x = .int .i64 k ∧ k ≤ s.size ∧ Hid (trimN s.data.toList k = R)) (fun x => (intOf x).toNat)
    case atStart => exact ⟨s.size, rfl, Nat.le_refl _, HR⟩
    case round =>
      obtain ⟨k, rfl, hk, HK⟩ := hrel
      by_cases hk0 : k = 0
      · subst hk0
        have hR0 : R = 0 := HK.out.symm
        go_wp2
        go_ret
        refine ⟨?_, hb.alloc hb.size _⟩
        have hT0 : trimB s = ByteArray.empty := by rw [HT.out, hR0]; simp
        rw [hT0]
        rfl
      · obtain ⟨j, rfl⟩ : ∃ j, k = j + 1 := ⟨k - 1, by omega⟩
        have hj : j < s.size := by omega
        have hw := HK.out
        rw [trimN, ← get_list s j hj] at hw
        have hj1 : ((j + 1 : Nat) : Int) - 1 = (j : Int) := by omega
        have hpos : (0 : Int) < ((j + 1 : Nat) : Int) := by omega
        have h0 : ((j + 1 : Nat) : Int) = (j : Int) + 1 := by omega
        by_cases h32 : s[j] = 32
        · rw [if_pos (.inl h32)] at hw
          have HW : Hid (trimN s.data.toList j = R) := hw
          have b32 : ((s[j].toNat : Int) == 32) = true := by rw [h32]; rfl
          clear hw h32
          go_wp2
          exact ⟨⟨j, rfl, by omega, HW⟩, by simp [intOf]⟩
        · by_cases hz : s[j] = 0
          · rw [if_pos (.inr hz)] at hw
            have HW : Hid (trimN s.data.toList j = R) := hw
            have b32 : ((s[j].toNat : Int) == 32) = false := by rw [hz]; rfl
            have b0 : ((s[j].toNat : Int) == 0) = true := by rw [hz]; rfl
            clear hw h32 hz
            go_wp2
            exact ⟨⟨j, rfl, by omega, HW⟩, by simp [intOf]⟩
          · rw [if_neg (by rintro (h | h); exact h32 h; exact hz h)] at hw
            have HW : Hid (j + 1 = R) := hw
            have b32 : ((s[j].toNat : Int) == 32) = false := by
              refine beq_eq_false_iff_ne.2 (fun h => h32 ?_)
              apply UInt8.toNat_inj.1
              simpa using Int.ofNat.inj h
            have b0 : ((s[j].toNat : Int) == 0) = false := by
              refine beq_eq_false_iff_ne.2 (fun h => hz ?_)
              apply UInt8.toNat_inj.1
              simpa using Int.ofNat.inj h
            clear hw h32 hz
            go_wp2
            go_ret
            refine ⟨?_, hb.alloc hb.size _⟩
            rw [HT.out, ← HW.out]
            rfl

end Go.Proofs.YtmocofmlehmneaaGreatDoor.Rp
