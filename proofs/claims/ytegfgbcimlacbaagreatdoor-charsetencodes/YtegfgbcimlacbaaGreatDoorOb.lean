
import Derived.Test.YtegfgbcimlacbaaGreatDoorOa
/-
  DERIVED. What the bytes from A0 on stand for.
-/
namespace Go.Proofs.YtegfgbcimlacbaaGreatDoor
open Go Go.Proofs Go.RowKit

def t101 : List Nat := [160, 260, 728, 321, 164, 317, 346, 167, 168, 352, 350, 356, 377, 173, 381, 379, 176, 261, 731, 322, 180, 318, 347, 711, 184, 353, 351, 357, 378, 733, 382, 380, 340, 193, 194, 258, 196, 313, 262, 199, 268, 201, 280, 203, 282, 205, 206, 270, 272, 323, 327, 211, 212, 336, 214, 215, 344, 366, 218, 368, 220, 221, 354, 223, 341, 225, 226, 259, 228, 314, 263, 231, 269, 233, 281, 235, 283, 237, 238, 271, 273, 324, 328, 243, 244, 337, 246, 247, 345, 367, 250, 369, 252, 253, 355, 729]
def t126 : List Nat := [160, 8216, 8217, 163, 0, 0, 166, 167, 168, 169, 0, 171, 172, 173, 0, 8213, 176, 177, 178, 179, 900, 901, 902, 183, 904, 905, 906, 187, 908, 189, 910, 911]

/-- The tables, as they lie in memory: the program's, the document's. -/
structure Tabs (w : World) : Prop where
  p1 : ∀ i, i < 96 → w.cell? ⟨4, i, none⟩ = some (.int .u16 (t101.getD i 0 : Nat))
  p2 : ∀ i, i < 32 → w.cell? ⟨5, i, none⟩ = some (.int .u16 (t126.getD i 0 : Nat))
structure RTabs (w : World) : Prop where
  p1 : ∀ i, i < 96 → w.cell? ⟨2, i, none⟩ = some (.int .i32 (t101.getD i 0 : Nat))
  p2 : ∀ i, i < 32 → w.cell? ⟨3, i, none⟩ = some (.int .i32 (t126.getD i 0 : Nat))

theorem Tabs.on {w w' : World} (h : Tabs w) (hb : Below w.heap.size w w') : Tabs w' :=
  ⟨fun i hi => (hb.cell (p := ⟨4, i, none⟩) (cell_lt (h.p1 i hi))).trans (h.p1 i hi), fun i hi => (hb.cell (p := ⟨5, i, none⟩) (cell_lt (h.p2 i hi))).trans (h.p2 i hi)⟩
theorem RTabs.on {w w' : World} (h : RTabs w) (hb : Below w.heap.size w w') : RTabs w' :=
  ⟨fun i hi => (hb.cell (p := ⟨2, i, none⟩) (cell_lt (h.p1 i hi))).trans (h.p1 i hi), fun i hi => (hb.cell (p := ⟨3, i, none⟩) (cell_lt (h.p2 i hi))).trans (h.p2 i hi)⟩

/-- What the byte 160 + d stands for in a repertoire. -/
def mean (k d : Nat) : Nat :=
  if k = 1 then 160 + d
  else if k = 2 then t101.getD d 0
  else if k = 3 then (if d < 32 then t126.getD d 0 else if d = 50 ∨ d = 95 then 0 else 880 + d)
  else if k = 4 then (if d = 0 ∨ d = 13 then 160 + d else if d = 80 then 8470 else if d = 93 then 167 else 1024 + d)
  else if k = 5 then (if d = 48 then 286 else if d = 61 then 304 else if d = 62 then 350 else if d = 80 then 287 else if d = 93 then 305 else if d = 94 then 351 else 160 + d)
  else 0

theorem t101_lt : ∀ d : Fin 96, t101.getD d.val 0 < 65536 := by decide +kernel
theorem t126_lt : ∀ d : Fin 32, t126.getD d.val 0 < 65536 := by decide +kernel

set_option maxRecDepth 100000 in
theorem mean1_any (w : World) (d : Nat) (hd : d < 96) : Calls Tryz.prog 67 #[.int .u8 ((160 + d : Nat) : Int)] w fun e w' => e = .returned (.int .i32 ((160 + d : Nat) : Int)) ∧ w = w' := by
  obtain ⟨b, hb⟩ : ∃ b, 160 + d = b := ⟨_, rfl⟩
  rw [hb]
  have h1 : ((b : Int)) < 256 := by omega
  have h0 : (0 : Int) ≤ (b : Int) := by omega
  clear hb
  go_enter Tryz.func67, Tryz.ntmps67
  go_wp2
  go_ret
  exact ⟨rfl, rfl⟩

theorem mean6_any (w : World) (v : Value) : Calls Tryz.prog 72 #[v] w fun e w' => e = .returned (.int .i32 0) ∧ w = w' := by
  go_enter Tryz.func72, Tryz.ntmps72
  go_wp2
  go_ret
  exact ⟨rfl, rfl⟩

set_option maxRecDepth 100000 in
theorem mean2_any (w : World) (d : Nat) (hd : d < 96) (hT : Tabs w) : Calls Tryz.prog 68 #[.int .u8 ((160 + d : Nat) : Int)] w fun e w' => e = .returned (.int .i32 (t101.getD d 0 : Nat)) ∧ w = w' := by
  have hc := hT.p1 d hd
  have hl := t101_lt ⟨d, hd⟩
  simp only at hl
  generalize t101.getD d 0 = r at hc hl ⊢
  obtain ⟨b, hb⟩ : ∃ b, 160 + d = b := ⟨_, rfl⟩
  rw [hb]
  have hs : ((b : Int) - 160) % 256 = (d : Int) := by omega
  have h0 : (0 : Int) ≤ (d : Int) := by omega
  have h1 : (d : Int) < 96 := by omega
  have hr0 : (0 : Int) ≤ (r : Int) := by omega
  have hr1 : (r : Int) < 65536 := by omega
  clear hb
  go_enter Tryz.func68, Tryz.ntmps68
  go_wp2
  go_ret
  exact ⟨rfl, rfl⟩

theorem mean3_lo {d : Nat} (h : d < 32) : mean 3 d = t126.getD d 0 := by unfold mean; rw [if_neg (by decide), if_neg (by decide), if_pos rfl, if_pos h]
theorem mean3_no {d : Nat} (h : ¬ d < 32) (h0 : d = 50 ∨ d = 95) : mean 3 d = 0 := by unfold mean; rw [if_neg (by decide), if_neg (by decide), if_pos rfl, if_neg h, if_pos h0]
theorem mean3_hi {d : Nat} (h : ¬ d < 32) (h0 : ¬ (d = 50 ∨ d = 95)) : mean 3 d = 880 + d := by unfold mean; rw [if_neg (by decide), if_neg (by decide), if_pos rfl, if_neg h, if_neg h0]

set_option maxRecDepth 100000 in
theorem mean3_any (w : World) (d : Nat) (hd : d < 96) (hT : Tabs w) : Calls Tryz.prog 69 #[.int .u8 ((160 + d : Nat) : Int)] w fun e w' => e = .returned (.int .i32 (mean 3 d : Nat)) ∧ w = w' := by
  obtain ⟨b, hb⟩ : ∃ b, 160 + d = b := ⟨_, rfl⟩
  by_cases h32 : d < 32
  · have hm := mean3_lo h32
    rw [hm, hb]
    have hc := hT.p2 d h32
    have hl := t126_lt ⟨d, h32⟩
    simp only at hl
    generalize t126.getD d 0 = r at hc hl ⊢
    have hs : ((b : Int) - 160) % 256 = (d : Int) := by omega
    have hb1 : decide ((b : Int) < 192) = true := by simp; omega
    have h0 : (0 : Int) ≤ (d : Int) := by omega
    have h1 : (d : Int) < 32 := by omega
    have hr0 : (0 : Int) ≤ (r : Int) := by omega
    have hr1 : (r : Int) < 65536 := by omega
    clear hb hm hT h32 hl hd
    go_enter Tryz.func69, Tryz.ntmps69
    go_wp2
    go_ret
    exact ⟨rfl, rfl⟩
  · by_cases h0 : d = 50 ∨ d = 95
    · have hm := mean3_no h32 h0
      rw [hm]
      clear hm
      rcases h0 with rfl | rfl
      all_goals go_enter Tryz.func69, Tryz.ntmps69
      all_goals go_wp2
      all_goals go_ret
      all_goals exact ⟨rfl, rfl⟩
    · have hm := mean3_hi h32 h0
      rw [hm, hb]
      have hs : ((b : Int) - 192) % 256 = ((d - 32 : Nat) : Int) := by omega
      have hb1 : (192 : Int) ≤ (b : Int) := by omega
      have e1 : ((b : Int) == 210) = false := by simp; omega
      have e2 : ((b : Int) == 255) = false := by simp; omega
      have hr : (912 : Int) + ((d - 32 : Nat) : Int) = ((880 + d : Nat) : Int) := by omega
      have hr0 : (0 : Int) ≤ ((d - 32 : Nat) : Int) := by omega
      have hr1 : ((d - 32 : Nat) : Int) < 256 := by omega
      generalize d - 32 = dd at hs hr hr0 hr1
      generalize 880 + d = rr at hr
      have hrr : (rr : Int) < 2000 := by omega
      clear hb hm
      go_enter Tryz.func69, Tryz.ntmps69
      go_wp2
      go_ret
      exact ⟨rfl, rfl⟩

set_option maxRecDepth 100000 in
theorem mean4_any (w : World) (d : Nat) (hd : d < 96) : Calls Tryz.prog 70 #[.int .u8 ((160 + d : Nat) : Int)] w fun e w' => e = .returned (.int .i32 (mean 4 d : Nat)) ∧ w = w' := by
  by_cases h0 : d = 0 ∨ d = 13 ∨ d = 80 ∨ d = 93
  · rcases h0 with rfl | rfl | rfl | rfl
    all_goals go_enter Tryz.func70, Tryz.ntmps70
    all_goals go_wp2
    all_goals go_ret
    all_goals exact ⟨rfl, rfl⟩
  · have hm : mean 4 d = 1024 + d := by
      unfold mean
      rw [if_neg (by decide), if_neg (by decide), if_neg (by decide), if_pos rfl, if_neg (by omega), if_neg (by omega), if_neg (by omega)]
    rw [hm]
    obtain ⟨b, hb⟩ : ∃ b, 160 + d = b := ⟨_, rfl⟩
    rw [hb]
    have hs : ((b : Int) - 160) % 256 = (d : Int) := by omega
    have e1 : ((b : Int) == 160) = false := by simp; omega
    have e2 : ((b : Int) == 173) = false := by simp; omega
    have e3 : ((b : Int) == 240) = false := by simp; omega
    have e4 : ((b : Int) == 253) = false := by simp; omega
    have hr : (1024 : Int) + (d : Int) = ((1024 + d : Nat) : Int) := by omega
    have hr0 : (0 : Int) ≤ (d : Int) := by omega
    have hr1 : (d : Int) < 256 := by omega
    generalize 1024 + d = rr at hr
    have hrr : (rr : Int) < 2000 := by omega
    clear hb hm
    go_enter Tryz.func70, Tryz.ntmps70
    go_wp2
    go_ret
    exact ⟨rfl, rfl⟩

set_option maxRecDepth 100000 in
theorem mean5_any (w : World) (d : Nat) (hd : d < 96) : Calls Tryz.prog 71 #[.int .u8 ((160 + d : Nat) : Int)] w fun e w' => e = .returned (.int .i32 (mean 5 d : Nat)) ∧ w = w' := by
  by_cases h0 : d = 48 ∨ d = 61 ∨ d = 62 ∨ d = 80 ∨ d = 93 ∨ d = 94
  · rcases h0 with rfl | rfl | rfl | rfl | rfl | rfl
    all_goals go_enter Tryz.func71, Tryz.ntmps71
    all_goals go_wp2
    all_goals go_ret
    all_goals exact ⟨rfl, rfl⟩
  · have hm : mean 5 d = 160 + d := by
      unfold mean
      rw [if_neg (by decide), if_neg (by decide), if_neg (by decide), if_neg (by decide), if_pos rfl, if_neg (by omega), if_neg (by omega), if_neg (by omega), if_neg (by omega), if_neg (by omega), if_neg (by omega)]
    rw [hm]
    obtain ⟨b, hb⟩ : ∃ b, 160 + d = b := ⟨_, rfl⟩
    rw [hb]
    have e1 : ((b : Int) == 208) = false := by simp; omega
    have e2 : ((b : Int) == 221) = false := by simp; omega
    have e3 : ((b : Int) == 222) = false := by simp; omega
    have e4 : ((b : Int) == 240) = false := by simp; omega
    have e5 : ((b : Int) == 253) = false := by simp; omega
    have e6 : ((b : Int) == 254) = false := by simp; omega
    have h1 : ((b : Int)) < 256 := by omega
    have h00 : (0 : Int) ≤ (b : Int) := by omega
    clear hb hm
    go_enter Tryz.func71, Tryz.ntmps71
    go_wp2
    go_ret
    exact ⟨rfl, rfl⟩

/-- What a byte stands for, by the function that a repertoire has for it. -/
theorem mean_any (w : World) (k d : Nat) (hk : k < 7) (hd : d < 96) (hT : Tabs w) : Calls Tryz.prog (mfN k) #[.int .u8 ((160 + d : Nat) : Int)] w fun e w' => e = .returned (.int .i32 (mean k d : Nat)) ∧ w = w' := by
  rcases (by omega : k = 0 ∨ k = 1 ∨ k = 2 ∨ k = 3 ∨ k = 4 ∨ k = 5 ∨ k = 6) with rfl | rfl | rfl | rfl | rfl | rfl | rfl
  · exact mean6_any w _
  · exact mean1_any w d hd
  · exact mean2_any w d hd hT
  · exact mean3_any w d hd hT
  · exact mean4_any w d hd
  · exact mean5_any w d hd
  · exact mean6_any w _

/-- No rune twice in a repertoire; none of them is ASCII. -/
theorem mean_inj : ∀ (k : Fin 7) (d e : Fin 96), mean k.val d.val = mean k.val e.val → mean k.val d.val ≠ 0 → d = e := by decide +kernel
theorem mean_high : ∀ (k : Fin 7) (d : Fin 96), mean k.val d.val = 0 ∨ (160 ≤ mean k.val d.val ∧ mean k.val d.val < 65536) := by decide +kernel
end Go.Proofs.YtegfgbcimlacbaaGreatDoor
