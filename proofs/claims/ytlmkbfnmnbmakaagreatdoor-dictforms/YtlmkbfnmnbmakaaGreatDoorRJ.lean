
import Derived.Test.YtlmkbfnmnbmakaaGreatDoorRI
/-
  DERIVED. The document's padding; the law.
-/
namespace Go.Proofs.YtlmkbfnmnbmakaaGreatDoor.Rp
open Go Go.Proofs Go.RowKit

theorem rabout_open (w : World) (v : Int) : Calls Tryz.prog 30 #[.int .i64 v] w fun e w' => e = .returned (.tuple #[.agg #[.string (nm (vn v)), .int .u8 (pd (vn v)), .int .i64 (un (vn v)), .int .i64 (mo (vn v)), .bool (tx (vn v)), .bool (ch (vn v)), .bool (mu (vn v)), .bool (lo (vn v))], .bool (decide (1 ≤ v ∧ v ≤ 28))]) ∧ Below w.heap.size w w' := rabout_any w v

theorem get_list (s : ByteArray) (k : Nat) (h : k < s.size) : s[k] = s.data.toList.getD k 1 := by
  have h2 : k < s.data.size := h
  show s.data[k] = _
  simp [List.getD_eq_getElem?_getD, Array.getElem?_eq_getElem h2]

set_option maxRecDepth 100000 in
theorem rtrim_any (w : World) (v : Int) (s : ByteArray) (hs : s.size ≤ 140737488351232) : Calls Tryz.prog 32 #[.int .i64 v, .string s] w fun e w' => e = .returned (.string (if tx (vn v) then trimB s else s)) ∧ Below w.heap.size w w' := by
  have c := rabout_open w v
  generalize nm (vn v) = n at c
  generalize pd (vn v) = p at c
  generalize un (vn v) = u at c
  generalize mo (vn v) = m at c
  generalize tx (vn v) = t at c ⊢
  generalize ch (vn v) = c' at c
  generalize mu (vn v) = q at c
  generalize lo (vn v) = l at c
  generalize decide (1 ≤ v ∧ v ≤ 28) = b at c
  obtain ⟨R, hR⟩ : ∃ R, trimN s.data.toList s.size = R := ⟨_, rfl⟩
  have HT : Hid (trimB s = s.extract 0 R) := by show _ = _; rw [← hR]; rfl
  have HR : Hid (trimN s.data.toList s.size = R) := hR
  clear hR
  cases t with
  | false =>
    go_enter Tryz.func32, Tryz.ntmps32
    go_wp2_with (first | (go_at_call 30; refine c.mono ?_; rintro e W1 ⟨rfl, hb⟩) | fail)
    go_loop [7] (fun x => x = .int .i64 (s.size : Nat)) (fun x => 0)
    case atStart => rfl
    case round =>
      obtain rfl := hrel
      go_wp2
      go_ret
      exact ⟨rfl, hb.alloc hb.size _⟩
  | true =>
    go_enter Tryz.func32, Tryz.ntmps32
    go_wp2_with (first | (go_at_call 30; refine c.mono ?_; rintro e W1 ⟨rfl, hb⟩) | fail)
    go_loop [7] (fun x => ∃ k : Nat, x = .int .i64 k ∧ k ≤ s.size ∧ Hid (trimN s.data.toList k = R)) (fun x => (intOf x).toNat)
    case atStart => exact ⟨s.size, rfl, Nat.le_refl _, HR⟩
    case round =>
      obtain ⟨k, rfl, hk, HK⟩ := hrel
      by_cases hk0 : k = 0
      · subst hk0
        have hR0 : R = 0 := HK.out.symm
        go_wp2
        go_ret
        refine ⟨?_, hb.alloc hb.size _⟩
        have hT0 : trimB s = ByteArray.empty := by rw [HT.out, hR0]; simp
        rw [hT0]
        rfl
      · obtain ⟨j, rfl⟩ : ∃ j, k = j + 1 := ⟨k - 1, by omega⟩
        have hj : j < s.size := by omega
        have hw := HK.out
        rw [trimN, ← get_list s j hj] at hw
        have hj1 : ((j + 1 : Nat) : Int) - 1 = (j : Int) := by omega
        have hpos : (0 : Int) < ((j + 1 : Nat) : Int) := by omega
        have h0 : ((j + 1 : Nat) : Int) = (j : Int) + 1 := by omega
        by_cases h32 : s[j] = 32
        · rw [if_pos (.inl h32)] at hw
          have HW : Hid (trimN s.data.toList j = R) := hw
          have b32 : ((s[j].toNat : Int) == 32) = true := by rw [h32]; rfl
          clear hw h32
          go_wp2
          exact ⟨⟨j, rfl, by omega, HW⟩, by simp [intOf]⟩
        · by_cases hz : s[j] = 0
          · rw [if_pos (.inr hz)] at hw
            have HW : Hid (trimN s.data.toList j = R) := hw
            have b32 : ((s[j].toNat : Int) == 32) = false := by rw [hz]; rfl
            have b0 : ((s[j].toNat : Int) == 0) = true := by rw [hz]; rfl
            clear hw h32 hz
            go_wp2
            exact ⟨⟨j, rfl, by omega, HW⟩, by simp [intOf]⟩
          · rw [if_neg (by rintro (h | h); exact h32 h; exact hz h)] at hw
            have HW : Hid (j + 1 = R) := hw
            have b32 : ((s[j].toNat : Int) == 32) = false := by
              refine beq_eq_false_iff_ne.2 (fun h => h32 ?_)
              apply UInt8.toNat_inj.1
              simpa using Int.ofNat.inj h
            have b0 : ((s[j].toNat : Int) == 0) = false := by
              refine beq_eq_false_iff_ne.2 (fun h => hz ?_)
              apply UInt8.toNat_inj.1
              simpa using Int.ofNat.inj h
            clear hw h32 hz
            go_wp2
            go_ret
            refine ⟨?_, hb.alloc hb.size _⟩
            rw [HT.out, ← HW.out]
            rfl

end Go.Proofs.YtlmkbfnmnbmakaaGreatDoor.Rp
