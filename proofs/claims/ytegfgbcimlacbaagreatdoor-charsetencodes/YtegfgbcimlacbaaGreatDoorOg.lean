
import Derived.Test.YtegfgbcimlacbaaGreatDoorOc
import Derived.Test.YtegfgbcimlacbaaGreatDoorP
/-
  DERIVED. The document's tables, and whether a rune can be written.
-/
namespace Go.Proofs.YtegfgbcimlacbaaGreatDoor
open Go Go.Proofs Go.RowKit Go.Maps

set_option maxRecDepth 100000 in
theorem st0_any (w : World) (rep : Int) (hrep : rep = 6 ∨ rep = 192) (d : Nat) (hd : d < 96) : Calls Tryz.prog 41 #[.int .i64 rep, .int .u8 ((160 + d : Nat) : Int)] w fun e w' => e = .returned (.int .i32 0) ∧ w = w' := by
  obtain ⟨b, hb⟩ : ∃ b, 160 + d = b := ⟨_, rfl⟩
  rw [hb]
  have h1 : decide ((b : Int) < 160) = false := by simp; omega
  clear hb
  rcases hrep with rfl | rfl
  all_goals go_enter Tryz.func41, Tryz.ntmps41
  all_goals go_wp2
  all_goals go_ret
  all_goals exact ⟨rfl, rfl⟩

set_option maxRecDepth 100000 in
theorem st1_any (w : World) (d : Nat) (hd : d < 96) : Calls Tryz.prog 41 #[.int .i64 100, .int .u8 ((160 + d : Nat) : Int)] w fun e w' => e = .returned (.int .i32 ((160 + d : Nat) : Int)) ∧ w = w' := by
  obtain ⟨b, hb⟩ : ∃ b, 160 + d = b := ⟨_, rfl⟩
  rw [hb]
  have h1 : decide ((b : Int) < 160) = false := by simp; omega
  have h2 : (b : Int) < 256 := by omega
  have h3 : (0 : Int) ≤ (b : Int) := by omega
  clear hb
  go_enter Tryz.func41, Tryz.ntmps41
  go_wp2
  go_ret
  exact ⟨rfl, rfl⟩

set_option maxRecDepth 100000 in
theorem st2_any (w : World) (d : Nat) (hd : d < 96) (hT : RTabs w) : Calls Tryz.prog 41 #[.int .i64 101, .int .u8 ((160 + d : Nat) : Int)] w fun e w' => e = .returned (.int .i32 (t101.getD d 0 : Nat)) ∧ w = w' := by
  have hc := hT.p1 d hd
  generalize t101.getD d 0 = r at hc ⊢
  obtain ⟨b, hb⟩ : ∃ b, 160 + d = b := ⟨_, rfl⟩
  rw [hb]
  have h1 : decide ((b : Int) < 160) = false := by simp; omega
  have hs : ((b : Int) - 160) % 256 = (d : Int) := by omega
  have h2 : (0 : Int) ≤ (d : Int) := by omega
  have h3 : (d : Int) < 96 := by omega
  clear hb hT
  go_enter Tryz.func41, Tryz.ntmps41
  go_wp2
  go_ret
  exact ⟨rfl, rfl⟩

set_option maxRecDepth 100000 in
theorem st3_any (w : World) (d : Nat) (hd : d < 96) (hT : RTabs w) : Calls Tryz.prog 41 #[.int .i64 126, .int .u8 ((160 + d : Nat) : Int)] w fun e w' => e = .returned (.int .i32 (mean 3 d : Nat)) ∧ w = w' := by
  obtain ⟨b, hb⟩ : ∃ b, 160 + d = b := ⟨_, rfl⟩
  have h1 : decide ((b : Int) < 160) = false := by simp; omega
  by_cases h32 : d < 32
  · rw [mean3_lo h32, hb]
    have hc := hT.p2 d h32
    generalize t126.getD d 0 = r at hc ⊢
    have hs : ((b : Int) - 160) % 256 = (d : Int) := by omega
    have hb1 : decide ((b : Int) < 192) = true := by simp; omega
    have h2 : (0 : Int) ≤ (d : Int) := by omega
    have h3 : (d : Int) < 32 := by omega
    clear hb hT h32 hd
    go_enter Tryz.func41, Tryz.ntmps41
    go_wp2
    go_ret
    exact ⟨rfl, rfl⟩
  · by_cases h0 : d = 50 ∨ d = 95
    · rw [mean3_no h32 h0]
      clear h1 hb
      rcases h0 with rfl | rfl
      all_goals go_enter Tryz.func41, Tryz.ntmps41
      all_goals go_wp2
      all_goals go_ret
      all_goals exact ⟨rfl, rfl⟩
    · rw [mean3_hi h32 h0, hb]
      have hb1 : decide ((b : Int) < 192) = false := by simp; omega
      have e1 : ((b : Int) == 210) = false := by simp; omega
      have e2 : ((b : Int) == 255) = false := by simp; omega
      have hr : (912 : Int) + (b : Int) - 192 = ((880 + d : Nat) : Int) := by omega
      have hr0 : (0 : Int) ≤ (b : Int) := by omega
      have hr1 : (b : Int) < 256 := by omega
      generalize 880 + d = rr at hr
      have hrr : (rr : Int) < 2000 := by omega
      clear hb hT h32 hd h0
      go_enter Tryz.func41, Tryz.ntmps41
      go_wp2
      go_ret
      exact ⟨rfl, rfl⟩

set_option maxRecDepth 100000 in
theorem st4_any (w : World) (d : Nat) (hd : d < 96) : Calls Tryz.prog 41 #[.int .i64 144, .int .u8 ((160 + d : Nat) : Int)] w fun e w' => e = .returned (.int .i32 (mean 4 d : Nat)) ∧ w = w' := by
  by_cases h0 : d = 0 ∨ d = 13 ∨ d = 80 ∨ d = 93
  · rcases h0 with rfl | rfl | rfl | rfl
    all_goals go_enter Tryz.func41, Tryz.ntmps41
    all_goals go_wp2
    all_goals go_ret
    all_goals exact ⟨rfl, rfl⟩
  · have hm : mean 4 d = 1024 + d := by
      unfold mean
      rw [if_neg (by decide), if_neg (by decide), if_neg (by decide), if_pos rfl, if_neg (by omega), if_neg (by omega), if_neg (by omega)]
    rw [hm]
    obtain ⟨b, hb⟩ : ∃ b, 160 + d = b := ⟨_, rfl⟩
    rw [hb]
    have h1 : decide ((b : Int) < 160) = false := by simp; omega
    have e1 : ((b : Int) == 160) = false := by simp; omega
    have e2 : ((b : Int) == 173) = false := by simp; omega
    have e3 : ((b : Int) == 240) = false := by simp; omega
    have e4 : ((b : Int) == 253) = false := by simp; omega
    have hr : (1025 : Int) + (b : Int) - 161 = ((1024 + d : Nat) : Int) := by omega
    have hr0 : (0 : Int) ≤ (b : Int) := by omega
    have hr1 : (b : Int) < 256 := by omega
    generalize 1024 + d = rr at hr
    have hrr : (rr : Int) < 2000 := by omega
    clear hb hm h0 hd
    go_enter Tryz.func41, Tryz.ntmps41
    go_wp2
    go_ret
    exact ⟨rfl, rfl⟩

set_option maxRecDepth 100000 in
theorem st5_any (w : World) (d : Nat) (hd : d < 96) : Calls Tryz.prog 41 #[.int .i64 148, .int .u8 ((160 + d : Nat) : Int)] w fun e w' => e = .returned (.int .i32 (mean 5 d : Nat)) ∧ w = w' := by
  by_cases h0 : d = 48 ∨ d = 61 ∨ d = 62 ∨ d = 80 ∨ d = 93 ∨ d = 94
  · rcases h0 with rfl | rfl | rfl | rfl | rfl | rfl
    all_goals go_enter Tryz.func41, Tryz.ntmps41
    all_goals go_wp2
    all_goals go_ret
    all_goals exact ⟨rfl, rfl⟩
  · have hm : mean 5 d = 160 + d := by
      unfold mean
      rw [if_neg (by decide), if_neg (by decide), if_neg (by decide), if_neg (by decide), if_pos rfl, if_neg (by omega), if_neg (by omega), if_neg (by omega), if_neg (by omega), if_neg (by omega), if_neg (by omega)]
    rw [hm]
    obtain ⟨b, hb⟩ : ∃ b, 160 + d = b := ⟨_, rfl⟩
    rw [hb]
    have h1 : decide ((b : Int) < 160) = false := by simp; omega
    have e1 : ((b : Int) == 208) = false := by simp; omega
    have e2 : ((b : Int) == 221) = false := by simp; omega
    have e3 : ((b : Int) == 222) = false := by simp; omega
    have e4 : ((b : Int) == 240) = false := by simp; omega
    have e5 : ((b : Int) == 253) = false := by simp; omega
    have e6 : ((b : Int) == 254) = false := by simp; omega
    have h2 : ((b : Int)) < 256 := by omega
    have h00 : (0 : Int) ≤ (b : Int) := by omega
    clear hb hm h0 hd
    go_enter Tryz.func41, Tryz.ntmps41
    go_wp2
    go_ret
    exact ⟨rfl, rfl⟩

theorem stands_any (w : World) (k b : Nat) (hk : k < 7) (hb0 : 160 ≤ b) (hb1 : b < 256) (hT : RTabs w) : Calls Tryz.prog 41 #[.int .i64 (repN k : Nat), .int .u8 (b : Int)] w fun e w' => e = .returned (.int .i32 (mean k (b - 160) : Nat)) ∧ w = w' := by
  obtain ⟨d, rfl⟩ : ∃ d, b = 160 + d := ⟨b - 160, by omega⟩
  rw [show 160 + d - 160 = d by omega]
  have hd : d < 96 := by omega
  rcases (by omega : k = 0 ∨ k = 1 ∨ k = 2 ∨ k = 3 ∨ k = 4 ∨ k = 5 ∨ k = 6) with rfl | rfl | rfl | rfl | rfl | rfl | rfl
  · exact st0_any w 6 (.inl rfl) d hd
  · exact st1_any w d hd
  · exact st2_any w d hd hT
  · exact st3_any w d hd hT
  · exact st4_any w d hd
  · exact st5_any w d hd
  · exact st0_any w 192 (.inr rfl) d hd

/-- Whether a byte from some place on stands for the rune: the first one. -/
def wrL (k : Nat) (r : Int) : Nat → Nat → Nat
  | 0, _ => 0
  | n + 1, d => if (mean k d : Int) = r then 160 + d else wrL k r n (d + 1)
def writesN (k : Nat) (r : Int) : Nat := wrL k r 96 0

set_option maxRecDepth 100000 in
theorem writes_any (w : World) (k : Nat) (hk : k < 7) (r : Int) (hT : RTabs w) : Calls Tryz.prog 22 #[.int .i64 (repN k : Nat), .int .i32 r] w fun e w' => e = .returned (.int .u8 (writesN k r : Nat)) ∧ w = w' := by
  have HS : Hid (∀ b : Nat, 160 ≤ b → b < 256 → Calls Tryz.prog 41 #[.int .i64 (repN k : Nat), .int .u8 (b : Int)] w fun e w' => e = .returned (.int .i32 (mean k (b - 160) : Nat)) ∧ w = w') := fun b h0 h1 => stands_any w k b hk h0 h1 hT
  obtain ⟨F, hF⟩ : ∃ F, writesN k r = F := ⟨_, rfl⟩
  have HF : Hid (wrL k r 96 0 = F) := hF
  rw [hF]
  generalize repN k = ρ at HS ⊢
  clear hF hT
  go_enter Tryz.func22, Tryz.ntmps22
  go_wp2
  go_loop [5] (fun y => ∃ b : Nat, y = .int .i64 (b : Int) ∧ 160 ≤ b ∧ b ≤ 256 ∧ Hid (wrL k r (256 - b) (b - 160) = F)) (fun y => 256 - (intOf y).toNat)
  case atStart => exact ⟨160, rfl, by omega, by omega, HF⟩
  case round =>
    obtain ⟨b, rfl, hb0, hb1, HB⟩ := hrel
    by_cases hb : b < 256
    · have c := HS.out b hb0 hb
      have hbi : (b : Int) ≤ 255 := by omega
      have hbm : (b : Int) % 256 = (b : Int) := by omega
      have hw := HB.out
      rw [show 256 - b = (255 - b) + 1 by omega, wrL, show 160 + (b - 160) = b by omega] at hw
      generalize mean k (b - 160) = m at c hw
      by_cases hm : (m : Int) = r
      · rw [if_pos hm] at hw
        have hmb : ((m : Int) == r) = true := by simpa using hm
        subst hw
        clear hm HB
        go_wp2_with (go_at_call 41; refine c.mono ?_; rintro e w' ⟨rfl, rfl⟩)
        go_ret
        exact ⟨rfl, rfl⟩
      · rw [if_neg hm] at hw
        have hmb : ((m : Int) == r) = false := by simpa using hm
        have HW : Hid (wrL k r (256 - (b + 1)) (b + 1 - 160) = F) := by
          show _ = _
          rw [show 256 - (b + 1) = 255 - b by omega, show b + 1 - 160 = b - 160 + 1 by omega]
          exact hw
        clear hm HB hw
        go_wp2_with (go_at_call 41; refine c.mono ?_; rintro e w' ⟨rfl, rfl⟩)
        exact ⟨⟨b + 1, by simp, by omega, by omega, HW⟩, by simp [intOf]; omega⟩
    · obtain rfl : b = 256 := by omega
      have hF : F = 0 := HB.out.symm
      subst hF
      go_wp2
      go_ret
      exact ⟨rfl, rfl⟩
end Go.Proofs.YtegfgbcimlacbaaGreatDoor
