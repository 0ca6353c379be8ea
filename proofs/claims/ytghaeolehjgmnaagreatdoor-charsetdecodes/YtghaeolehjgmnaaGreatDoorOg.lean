
import Derived.Test.YtghaeolehjgmnaaGreatDoorOc
import Derived.Test.YtghaeolehjgmnaaGreatDoorP
/-
  DERIVED. The document's tables, and whether a rune can be written.
-/
namespace Go.Proofs.YtghaeolehjgmnaaGreatDoor
open Go Go.Proofs Go.RowKit Go.Maps

set_option maxRecDepth 100000 in
theorem st0_any (w : World) (rep : Int) (hrep : rep = 6 ∨ rep = 192) (d : Nat) (hd : d < 96) : Calls Tryz.prog 22 #[.int .i64 rep, .int .u8 ((160 + d : Nat) : Int)] w fun e w' => e = .returned (.int .i32 0) ∧ w = w' := by
  obtain ⟨b, hb⟩ : ∃ b, 160 + d = b := ⟨_, rfl⟩
  rw [hb]
  have h1 : decide ((b : Int) < 160) = false := by simp; omega
  clear hb
  rcases hrep with rfl | rfl
  all_goals go_enter Tryz.func22, Tryz.ntmps22
  all_goals go_wp2
  all_goals go_ret
  all_goals exact ⟨rfl, rfl⟩

set_option maxRecDepth 100000 in
theorem st1_any (w : World) (d : Nat) (hd : d < 96) : Calls Tryz.prog 22 #[.int .i64 100, .int .u8 ((160 + d : Nat) : Int)] w fun e w' => e = .returned (.int .i32 ((160 + d : Nat) : Int)) ∧ w = w' := by
  obtain ⟨b, hb⟩ : ∃ b, 160 + d = b := ⟨_, rfl⟩
  rw [hb]
  have h1 : decide ((b : Int) < 160) = false := by simp; omega
  have h2 : (b : Int) < 256 := by omega
  have h3 : (0 : Int) ≤ (b : Int) := by omega
  clear hb
  go_enter Tryz.func22, Tryz.ntmps22
  go_wp2
  go_ret
  exact ⟨rfl, rfl⟩

set_option maxRecDepth 100000 in
theorem st2_any (w : World) (d : Nat) (hd : d < 96) (hT : RTabs w) : Calls Tryz.prog 22 #[.int .i64 101, .int .u8 ((160 + d : Nat) : Int)] w fun e w' => e = .returned (.int .i32 (t101.getD d 0 : Nat)) ∧ w = w' := by
  have hc := hT.p1 d hd
  generalize t101.getD d 0 = r at hc ⊢
  obtain ⟨b, hb⟩ : ∃ b, 160 + d = b := ⟨_, rfl⟩
  rw [hb]
  have h1 : decide ((b : Int) < 160) = false := by simp; omega
  have hs : ((b : Int) - 160) % 256 = (d : Int) := by omega
  have h2 : (0 : Int) ≤ (d : Int) := by omega
  have h3 : (d : Int) < 96 := by omega
  clear hb hT
  go_enter Tryz.func22, Tryz.ntmps22
  go_wp2
  go_ret
  exact ⟨rfl, rfl⟩

set_option maxRecDepth 100000 in
theorem st3_any (w : World) (d : Nat) (hd : d < 96) (hT : RTabs w) : Calls Tryz.prog 22 #[.int .i64 126, .int .u8 ((160 + d : Nat) : Int)] w fun e w' => e = .returned (.int .i32 (mean 3 d : Nat)) ∧ w = w' := by
  obtain ⟨b, hb⟩ : ∃ b, 160 + d = b := ⟨_, rfl⟩
  have h1 : decide ((b : Int) < 160) = false := by simp; omega
  by_cases h32 : d < 32
  · rw [mean3_lo h32, hb]
    have hc := hT.p2 d h32
    generalize t126.getD d 0 = r at hc ⊢
    have hs : ((b : Int) - 160) % 256 = (d : Int) := by omega
    have hb1 : decide ((b : Int) < 192) = true := by simp; omega
    have h2 : (0 : Int) ≤ (d : Int) := by omega
    have h3 : (d : Int) < 32 := by omega
    clear hb hT h32 hd
    go_enter Tryz.func22, Tryz.ntmps22
    go_wp2
    go_ret
    exact ⟨rfl, rfl⟩
  · by_cases h0 : d = 50 ∨ d = 95
    · rw [mean3_no h32 h0]
      clear h1 hb
      rcases h0 with rfl | rfl
      all_goals go_enter Tryz.func22, Tryz.ntmps22
      all_goals go_wp2
      all_goals go_ret
      all_goals exact ⟨rfl, rfl⟩
    · rw [mean3_hi h32 h0, hb]
      have hb1 : decide ((b : Int) < 192) = false := by simp; omega
      have e1 : ((b : Int) == 210) = false := by simp; omega
      have e2 : ((b : Int) == 255) = false := by simp; omega
      have hr : (912 : Int) + (b : Int) - 192 = ((880 + d : Nat) : Int) := by omega
      have hr0 : (0 : Int) ≤ (b : Int) := by omega
      have hr1 : (b : Int) < 256 := by omega
      generalize 880 + d = rr at hr
      have hrr : (rr : Int) < 2000 := by omega
      clear hb hT h32 hd h0
      go_enter Tryz.func22, Tryz.ntmps22
      go_wp2
      go_ret
      exact ⟨rfl, rfl⟩

set_option maxRecDepth 100000 in
theorem st4_any (w : World) (d : Nat) (hd : d < 96) : Calls Tryz.prog 22 #[.int .i64 144, .int .u8 ((160 + d : Nat) : Int)] w fun e w' => e = .returned (.int .i32 (mean 4 d : Nat)) ∧ w = w' := by
  by_cases h0 : d = 0 ∨ d = 13 ∨ d = 80 ∨ d = 93
  · rcases h0 with rfl | rfl | rfl | rfl
    all_goals go_enter Tryz.func22, Tryz.ntmps22
    all_goals go_wp2
    all_goals go_ret
    all_goals exact ⟨rfl, rfl⟩
  · have hm : mean 4 d = 1024 + d := by
      unfold mean
      rw [if_neg (by decide), if_neg (by decide), if_neg (by decide), if_pos rfl, if_neg (by omega), if_neg (by omega), if_neg (by omega)]
    rw [hm]
    obtain ⟨b, hb⟩ : ∃ b, 160 + d = b := ⟨_, rfl⟩
    rw [hb]
    have h1 : decide ((b : Int) < 160) = false := by simp; omega
    have e1 : ((b : Int) == 160) = false := by simp; omega
    have e2 : ((b : Int) == 173) = false := by simp; omega
    have e3 : ((b : Int) == 240) = false := by simp; omega
    have e4 : ((b : Int) == 253) = false := by simp; omega
    have hr : (1025 : Int) + (b : Int) - 161 = ((1024 + d : Nat) : Int) := by omega
    have hr0 : (0 : Int) ≤ (b : Int) := by omega
    have hr1 : (b : Int) < 256 := by omega
    generalize 1024 + d = rr at hr
    have hrr : (rr : Int) < 2000 := by omega
    clear hb hm h0 hd
    go_enter Tryz.func22, Tryz.ntmps22
    go_wp2
    go_ret
    exact ⟨rfl, rfl⟩

set_option maxRecDepth 100000 in
theorem st5_any (w : World) (d : Nat) (hd : d < 96) : Calls Tryz.prog 22 #[.int .i64 148, .int .u8 ((160 + d : Nat) : Int)] w fun e w' => e = .returned (.int .i32 (mean 5 d : Nat)) ∧ w = w' := by
  by_cases h0 : d = 48 ∨ d = 61 ∨ d = 62 ∨ d = 80 ∨ d = 93 ∨ d = 94
  · rcases h0 with rfl | rfl | rfl | rfl | rfl | rfl
    all_goals go_enter Tryz.func22, Tryz.ntmps22
    all_goals go_wp2
    all_goals go_ret
    all_goals exact ⟨rfl, rfl⟩
  · have hm : mean 5 d = 160 + d := by
      unfold mean
      rw [if_neg (by decide), if_neg (by decide), if_neg (by decide), if_neg (by decide), if_pos rfl, if_neg (by omega), if_neg (by omega), if_neg (by omega), if_neg (by omega), if_neg (by omega), if_neg (by omega)]
    rw [hm]
    obtain ⟨b, hb⟩ : ∃ b, 160 + d = b := ⟨_, rfl⟩
    rw [hb]
    have h1 : decide ((b : Int) < 160) = false := by simp; omega
    have e1 : ((b : Int) == 208) = false := by simp; omega
    have e2 : ((b : Int) == 221) = false := by simp; omega
    have e3 : ((b : Int) == 222) = false := by simp; omega
    have e4 : ((b : Int) == 240) = false := by simp; omega
    have e5 : ((b : Int) == 253) = false := by simp; omega
    have e6 : ((b : Int) == 254) = false := by simp; omega
    have h2 : ((b : Int)) < 256 := by omega
    have h00 : (0 : Int) ≤ (b : Int) := by omega
    clear hb hm h0 hd
    go_enter Tryz.func22, Tryz.ntmps22
    go_wp2
    go_ret
    exact ⟨rfl, rfl⟩

theorem stands_any (w : World) (k b : Nat) (hk : k < 7) (hb0 : 160 ≤ b) (hb1 : b < 256) (hT : RTabs w) : Calls Tryz.prog 22 #[.int .i64 (repN k : Nat), .int .u8 (b : Int)] w fun e w' => e = .returned (.int .i32 (mean k (b - 160) : Nat)) ∧ w = w' := by
  obtain ⟨d, rfl⟩ : ∃ d, b = 160 + d := ⟨b - 160, by omega⟩
  rw [show 160 + d - 160 = d by omega]
  have hd : d < 96 := by omega
  rcases (by omega : k = 0 ∨ k = 1 ∨ k = 2 ∨ k = 3 ∨ k = 4 ∨ k = 5 ∨ k = 6) with rfl | rfl | rfl | rfl | rfl | rfl | rfl
  · exact st0_any w 6 (.inl rfl) d hd
  · exact st1_any w d hd
  · exact st2_any w d hd hT
  · exact st3_any w d hd hT
  · exact st4_any w d hd
  · exact st5_any w d hd
  · exact st0_any w 192 (.inr rfl) d hd

/-- Whether a byte from some place on stands for the rune: the first one. -/
def wrL (k : Nat) (r : Int) : Nat → Nat → Nat
  | 0, _ => 0
  | n + 1, d => if (mean k d : Int) = r then 160 + d else wrL k r n (d + 1)
def writesN (k : Nat) (r : Int) : Nat := wrL k r 96 0

end Go.Proofs.YtghaeolehjgmnaaGreatDoor
