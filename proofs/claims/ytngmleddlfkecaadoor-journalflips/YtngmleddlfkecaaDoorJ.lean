import Derived.Test.YtngmleddlfkecaaDoorI
import Derived.Deep.RegionWith
namespace Go.Proofs.YtngmleddlfkecaaDoor
open Go Go.Proofs Go.RowKit

/-- The length that a frame's lead tells. -/
def lenP (d : List Nat) : Nat := le ((d.drop 5).take 4)
/-- Is there a whole frame of that number? -/
def frameP (d : List Nat) (k : Nat) : Bool :=
  summedP d 9 && decide (d.getD 0 0 = 165) && decide (le ((d.drop 1).take 4) = k) && decide (lenP d ≤ 131072) && summedP (d.drop 13) (lenP d)

theorem summedP_len {d : List Nat} {n : Nat} (h : summedP d n = true) : n + 4 ≤ d.length := by unfold summedP at h; simp at h; exact h.1

theorem frame_summed1 {w : World} {v : Value} {d : List Nat} (k : Nat) (h : V w v d) (hT : Tab w) (hl : d.length ≤ 140737488351232) (hS : summedP d 9 = false) :
    Calls Tryd.prog 46 #[v, .int .u32 (k : Int)] w fun e w' => e = .returned (.tuple #[.slice none 0 0, .bool false]) ∧ ∃ m, w' = w.drewN m := by
  have c := summed_no h hT hl (n := 9) (by decide) hS
  obtain ⟨ao, cap, rfl, _, _⟩ := h.form
  clear h hS
  go_enter Tryd.func46, Tryd.ntmps46
  go_wp2_with (go_at_call 44; refine c.mono ?_; rintro e w' ⟨rfl, m, rfl⟩)
  go_ret2
  exact ⟨rfl, _, rfl⟩

/-- What the walks behind the first sum go by. -/
theorem frame_parts {w : World} {b off l cap : Nat} {d : List Nat} (h : At w b off d) (hT : Tab w) (hlen : d.length = l) (hc : l ≤ cap) (hl : l ≤ 140737488351232) (hS : summedP d 9 = true) :
    (Calls Tryd.prog 44 #[.slice (some ⟨b, off, none⟩) l cap, .int .i64 9] w fun e w' => e = .returned (.tuple #[.slice (some ⟨b, off, none⟩) 9 cap, .bool true]) ∧ ∃ m, w' = w.drewN m) ∧
    w.cell? ⟨b, off, none⟩ = some (.int .u8 (d.getD 0 0 : Nat)) ∧
    (∀ o nn cp m, o = off + 1 ∧ 4 ≤ nn ∧ nn ≤ 8 ∧ nn ≤ cp → Calls Tryd.prog 45 #[.slice (some ⟨b, o, none⟩) nn cp] (w.drewN m) fun e w' => e = .returned (.int .u32 (le ((d.drop 1).take 4) : Nat)) ∧ ∃ k, w' = (w.drewN m).drewN k) ∧
    (∀ o nn cp m, o = off + 5 ∧ 4 ≤ nn ∧ nn ≤ 4 ∧ nn ≤ cp → Calls Tryd.prog 45 #[.slice (some ⟨b, o, none⟩) nn cp] (w.drewN m) fun e w' => e = .returned (.int .u32 (lenP d : Nat)) ∧ ∃ k, w' = (w.drewN m).drewN k) ∧ 13 ≤ l := by
  have hd := summedP_len hS
  refine ⟨summed_yes h hT hlen hc hl hS, h.1 0 (by omega), ?_, ?_, by omega⟩
  · rintro o nn cp m ⟨rfl, h4, h8, hcp⟩
    have hv : V (w.drewN m) (.slice (some ⟨b, off + 1, none⟩) nn cp) ((d.drop 1).take nn) := V.mk ((h.drop 1).take nn) (by simp; omega) hcp
    have := get32_any hv (by simp; omega)
    rwa [List.take_take, Nat.min_eq_left h4] at this
  · rintro o nn cp m ⟨rfl, h4, h8, hcp⟩
    have hv : V (w.drewN m) (.slice (some ⟨b, off + 5, none⟩) nn cp) ((d.drop 5).take nn) := V.mk ((h.drop 5).take nn) (by simp; omega) hcp
    have := get32_any hv (by simp; omega)
    rwa [List.take_take, Nat.min_eq_left h4] at this

set_option maxRecDepth 100000 in
theorem frame_mark {w : World} {b off l cap : Nat} {d : List Nat} (k : Nat) (h : At w b off d) (hT : Tab w) (hlen : d.length = l) (hc : l ≤ cap) (hl : l ≤ 140737488351232) (hS : summedP d 9 = true) (h0 : d.getD 0 0 ≠ 165) :
    Calls Tryd.prog 46 #[.slice (some ⟨b, off, none⟩) l cap, .int .u32 (k : Int)] w fun e w' => e = .returned (.tuple #[.slice none 0 0, .bool false]) ∧ ∃ m, w' = w.drewN m := by
  obtain ⟨c1, hc0, _, _, h13⟩ := frame_parts h hT hlen hc hl hS
  obtain ⟨y, hy⟩ : ∃ y, d.getD 0 0 = y := ⟨_, rfl⟩
  rw [hy] at hc0 h0
  clear hy h hT hlen hS
  have hne : ((y : Int) != 165) = true := by simp; omega
  go_enter Tryd.func46, Tryd.ntmps46
  go_wp2_with (go_at_call 44; refine c1.mono ?_; rintro e w' ⟨rfl, m, rfl⟩)
  go_ret2
  exact ⟨rfl, _, rfl⟩

set_option maxRecDepth 100000 in
theorem frame_number {w : World} {b off l cap : Nat} {d : List Nat} (k : Nat) (h : At w b off d) (hT : Tab w) (hlen : d.length = l) (hc : l ≤ cap) (hl : l ≤ 140737488351232) (hS : summedP d 9 = true) (h0 : d.getD 0 0 = 165) (h1 : le ((d.drop 1).take 4) ≠ k) :
    Calls Tryd.prog 46 #[.slice (some ⟨b, off, none⟩) l cap, .int .u32 (k : Int)] w fun e w' => e = .returned (.tuple #[.slice none 0 0, .bool false]) ∧ ∃ m, w' = w.drewN m := by
  obtain ⟨c1, hc0, c2, _, h13⟩ := frame_parts h hT hlen hc hl hS
  rw [h0] at hc0
  obtain ⟨X, hX⟩ : ∃ X, le ((d.drop 1).take 4) = X := ⟨_, rfl⟩
  rw [hX] at c2 h1
  clear hX h hT hlen hS h0
  have hne : ((X : Int) != (k : Int)) = true := by simp; omega
  have hcn : ¬ cap = 1 := by omega
  go_enter Tryd.func46, Tryd.ntmps46
  go_wp2_with (first | (go_at_call 44; refine c1.mono ?_; rintro e w' ⟨rfl, m, rfl⟩) | (go_at_call 45; refine (c2 _ _ _ _ ?_).mono ?_; (focus omega); rintro e w' ⟨rfl, k1, rfl⟩))
  go_ret2
  exact ⟨rfl, _, rfl⟩

set_option maxRecDepth 100000 in
theorem frame_long {w : World} {b off l cap : Nat} {d : List Nat} (k : Nat) (h : At w b off d) (hT : Tab w) (hlen : d.length = l) (hc : l ≤ cap) (hl : l ≤ 140737488351232) (hS : summedP d 9 = true) (h0 : d.getD 0 0 = 165) (h1 : le ((d.drop 1).take 4) = k) (h2 : 131072 < lenP d) :
    Calls Tryd.prog 46 #[.slice (some ⟨b, off, none⟩) l cap, .int .u32 (k : Int)] w fun e w' => e = .returned (.tuple #[.slice none 0 0, .bool false]) ∧ ∃ m, w' = w.drewN m := by
  obtain ⟨c1, hc0, c2, c3, h13⟩ := frame_parts h hT hlen hc hl hS
  rw [h0] at hc0
  rw [h1] at c2
  obtain ⟨X, hX⟩ : ∃ X, lenP d = X := ⟨_, rfl⟩
  rw [hX] at c3 h2
  clear hX h hT hlen hS h0 h1
  have hcn : ¬ cap = 1 := by omega
  have hcn5 : ¬ cap = 5 := by omega
  go_enter Tryd.func46, Tryd.ntmps46
  go_wp2_with (first | (go_at_call 44; refine c1.mono ?_; rintro e w' ⟨rfl, m, rfl⟩) | (go_at_call 45; refine (c2 _ _ _ _ ?_).mono ?_; (focus omega); rintro e w' ⟨rfl, k1, rfl⟩) | (go_at_call 45; refine (c3 _ _ _ _ ?_).mono ?_; (focus omega); rintro e w' ⟨rfl, k2, rfl⟩))
  go_ret2
  exact ⟨rfl, _, rfl⟩

set_option maxRecDepth 100000 in
theorem frame_body {w : World} {b off l cap : Nat} {d : List Nat} (k : Nat) (h : At w b off d) (hT : Tab w) (hlen : d.length = l) (hc : l ≤ cap) (hl : l ≤ 140737488351232) (hS : summedP d 9 = true) (h0 : d.getD 0 0 = 165) (h1 : le ((d.drop 1).take 4) = k) (h2 : lenP d ≤ 131072)
    (ad : Addr) (had : ad = if cap = 13 then ⟨b, off, none⟩ else ⟨b, off + 13, none⟩) (v1 : Value) (o1 : Bool)
    (c4 : ∀ m, Calls Tryd.prog 44 #[.slice (some ad) (l - 13) (cap - 13), .int .i64 (lenP d : Nat)] (w.drewN m) fun e w' => e = .returned (.tuple #[v1, .bool o1]) ∧ ∃ k, w' = (w.drewN m).drewN k) :
    Calls Tryd.prog 46 #[.slice (some ⟨b, off, none⟩) l cap, .int .u32 (k : Int)] w fun e w' => e = .returned (.tuple #[v1, .bool o1]) ∧ ∃ m, w' = w.drewN m := by
  obtain ⟨c1, hc0, c2, c3, h13⟩ := frame_parts h hT hlen hc hl hS
  rw [h0] at hc0
  rw [h1] at c2
  obtain ⟨X, hX⟩ : ∃ X, lenP d = X := ⟨_, rfl⟩
  rw [hX] at c3 h2 c4
  clear hX h hT hlen hS h0 h1
  have hcn : ¬ cap = 1 := by omega
  have hcn5 : ¬ cap = 5 := by omega
  by_cases hc13 : cap = 13
  · rw [if_pos hc13] at had
    subst had
    subst hc13
    obtain rfl : l = 13 := by omega
    simp only [Nat.sub_self] at c4
    clear hc h13 hl
    go_enter Tryd.func46, Tryd.ntmps46
    go_wp2_with (first | (go_at_call_of 44 (Value.int .i64 9); refine c1.mono ?_; rintro e w' ⟨rfl, m, rfl⟩) | (go_at_call 45; refine (c2 _ _ _ _ ?_).mono ?_; (focus omega); rintro e w' ⟨rfl, k1, rfl⟩) | (go_at_call 45; refine (c3 _ _ _ _ ?_).mono ?_; (focus omega); rintro e w' ⟨rfl, k2, rfl⟩) | (go_at_call 44; refine (c4 _).mono ?_; rintro e w' ⟨rfl, k3, rfl⟩))
    go_ret2
    exact ⟨rfl, _, rfl⟩
  · rw [if_neg hc13] at had
    subst had
    go_enter Tryd.func46, Tryd.ntmps46
    go_wp2_with (first | (go_at_call_of 44 (Value.int .i64 9); refine c1.mono ?_; rintro e w' ⟨rfl, m, rfl⟩) | (go_at_call 45; refine (c2 _ _ _ _ ?_).mono ?_; (focus omega); rintro e w' ⟨rfl, k1, rfl⟩) | (go_at_call 45; refine (c3 _ _ _ _ ?_).mono ?_; (focus omega); rintro e w' ⟨rfl, k2, rfl⟩) | (go_at_call 44; refine (c4 _).mono ?_; rintro e w' ⟨rfl, k3, rfl⟩))
    go_ret2
    exact ⟨rfl, _, rfl⟩

/-- readFrame: yes. -/
theorem frame_yes {w : World} {b off l cap : Nat} {d : List Nat} {k : Nat} (h : At w b off d) (hT : Tab w) (hlen : d.length = l) (hc : l ≤ cap) (hl : l ≤ 140737488351232) (hF : frameP d k = true) :
    Calls Tryd.prog 46 #[.slice (some ⟨b, off, none⟩) l cap, .int .u32 (k : Int)] w fun e w' => e = .returned (.tuple #[.slice (some ⟨b, off + 13, none⟩) (lenP d) (cap - 13), .bool true]) ∧ ∃ m, w' = w.drewN m := by
  unfold frameP at hF
  simp only [Bool.and_eq_true, decide_eq_true_eq] at hF
  obtain ⟨⟨⟨⟨hS, h0⟩, h1⟩, h2⟩, h3⟩ := hF
  have h13 := summedP_len h3
  rw [List.length_drop] at h13
  refine frame_body k h hT hlen hc hl hS h0 h1 h2 ⟨b, off + 13, none⟩ (by rw [if_neg (by omega)]) _ true ?_
  intro m
  exact summed_yes (w := w.drewN m) (h.drop 13) (hT.drewN m) (by simp; omega) (by omega) (by omega) h3

/-- readFrame: no. -/
theorem frame_no {w : World} {v : Value} {d : List Nat} {k : Nat} (h : V w v d) (hT : Tab w) (hl : d.length ≤ 140737488351232) (hF : frameP d k = false) :
    Calls Tryd.prog 46 #[v, .int .u32 (k : Int)] w fun e w' => e = .returned (.tuple #[.slice none 0 0, .bool false]) ∧ ∃ m, w' = w.drewN m := by
  by_cases hS : summedP d 9 = true
  · rcases h with ⟨a1, c1, rfl, rfl⟩ | ⟨b, off, cap, rfl, hp1, hc, h⟩
    · exact absurd hS (by decide)
    · by_cases h0 : d.getD 0 0 = 165
      · by_cases h1 : le ((d.drop 1).take 4) = k
        · by_cases h2 : lenP d ≤ 131072
          · have h3 : summedP (d.drop 13) (lenP d) = false := by
              unfold frameP at hF
              rw [hS, h0, h1] at hF
              simpa [h2] using hF
            refine frame_body k h hT rfl hc hl hS h0 h1 h2 _ rfl _ false ?_
            intro m
            have h9 := summedP_len hS
            have hv : V (w.drewN m) (.slice (some (if cap = 13 then ⟨b, off, none⟩ else ⟨b, off + 13, none⟩)) (d.length - 13) (cap - 13)) (d.drop 13) := by
              by_cases hc13 : cap = 13
              · rw [if_pos hc13]
                have e : d.length = 13 := by omega
                rw [e, List.drop_eq_nil_of_le (by omega)]
                exact .inl ⟨_, _, rfl, rfl⟩
              · rw [if_neg hc13]
                exact V.mk (w := w.drewN m) (h.drop 13) (by simp) (by omega)
            exact summed_no hv (hT.drewN m) (by simp; omega) (by omega) h3
          · exact frame_long k h hT rfl hc hl hS h0 h1 (by omega)
        · exact frame_number k h hT rfl hc hl hS h0 h1
      · exact frame_mark k h hT rfl hc hl hS h0
  · exact frame_summed1 k h hT hl (by simpa using hS)
end Go.Proofs.YtngmleddlfkecaaDoor
