import Derived.Test.YtngmleddlfkecaaDoorH
namespace Go.Proofs.YtngmleddlfkecaaDoor
open Go Go.Proofs Go.RowKit

/-- What 'summed' asks. -/
def summedP (d : List Nat) (n : Nat) : Bool := decide (n + 4 ≤ d.length) && decide (le ((d.drop n).take 4) = crc (d.take n))

theorem At.drop {w : World} {b off : Nat} {bs : List Nat} (h : At w b off bs) (k : Nat) : At w b (off + k) (bs.drop k) := by
  refine ⟨?_, fun x hx => h.2 x (List.mem_of_mem_drop hx)⟩
  intro j hj
  rw [List.length_drop] at hj
  have := h.1 (k + j) (by omega)
  rw [Nat.add_assoc, this]
  simp [List.getD_eq_getElem?_getD]

theorem At.take {w : World} {b off : Nat} {bs : List Nat} (h : At w b off bs) (k : Nat) : At w b off (bs.take k) := by
  refine ⟨?_, fun x hx => h.2 x (List.mem_of_mem_take hx)⟩
  intro j hj
  rw [List.length_take] at hj
  rw [h.1 j (by omega)]
  simp [List.getD_eq_getElem?_getD, show j < k by omega]

theorem V.mk {w : World} {b off n cap : Nat} {bs : List Nat} (h : At w b off bs) (hn : bs.length = n) (hc : n ≤ cap) : V w (.slice (some ⟨b, off, none⟩) n cap) bs := by
  subst hn
  by_cases hp : 0 < bs.length
  · exact .inr ⟨b, off, cap, rfl, hp, hc, h⟩
  · have h0 : bs = [] := List.eq_nil_of_length_eq_zero (by omega)
    subst h0
    exact .inl ⟨_, _, rfl, rfl⟩

theorem Tab.drewN {w : World} (h : Tab w) (n : Nat) : Tab (w.drewN n) := h
theorem V.drewN {w : World} {v : Value} {bs : List Nat} (h : V w v bs) (n : Nat) : V (w.drewN n) v bs := h

set_option maxRecDepth 100000 in
theorem summed_short (w : World) (ao : Option Addr) (l cap n : Nat) (hn : n ≤ 140737488351232) (h : l < n + 4) :
    Calls Tryd.prog 44 #[.slice ao l cap, .int .i64 (n : Int)] w fun e w' => e = .returned (.tuple #[.slice none 0 0, .bool false]) ∧ ∃ m, w' = w.drewN m := by
  have hlt : (l : Int) < (n : Int) + 4 := by omega
  go_enter Tryd.func44, Tryd.ntmps44
  go_wp2
  go_quiet (fail)
  go_wp2
  go_ret2
  exact ⟨rfl, _, rfl⟩

set_option maxRecDepth 100000 in
theorem summed_long (w : World) (b off l cap n : Nat) (bs : List Nat) (hb : At w b off bs) (hT : Tab w) (hlen : bs.length = l) (hc : l ≤ cap) (hl : l ≤ 140737488351232) (h : n + 4 ≤ l) :
    Calls Tryd.prog 44 #[.slice (some ⟨b, off, none⟩) l cap, .int .i64 (n : Int)] w fun e w' => e = .returned (if summedP bs n then .tuple #[.slice (some ⟨b, off, none⟩) n cap, .bool true] else .tuple #[.slice none 0 0, .bool false]) ∧ ∃ m, w' = w.drewN m := by
  have cg : ∀ m, Calls Tryd.prog 45 #[.slice (some ⟨b, off + n, none⟩) (l - n) (cap - n)] (w.drewN m) fun e w' => e = .returned (.int .u32 (le ((bs.drop n).take 4) : Nat)) ∧ ∃ k, w' = (w.drewN m).drewN k := fun m => get32_any (V.mk (hb.drop n) (by simp [hlen]) (by omega)) (by simp; omega)
  have cs : ∀ m, Calls Tryd.prog 6 #[.slice (some ⟨b, off, none⟩) n cap] (w.drewN m) fun e w' => e = .returned (.int .u32 (crc (bs.take n) : Nat)) ∧ w' = w.drewN m := by
    intro m
    have hv : V (w.drewN m) (.slice (some ⟨b, off, none⟩) n cap) (bs.take n) := V.mk (hb.take n) (by simp; omega) (by omega)
    refine (sum_any hv (hT.drewN m) (by simp; omega)).mono ?_
    rintro e w' ⟨rfl, rfl⟩
    exact ⟨rfl, rfl⟩
  have hS : summedP bs n = decide (le ((bs.drop n).take 4) = crc (bs.take n)) := by unfold summedP; simp; omega
  rw [hS]
  clear hS
  obtain ⟨X, hX⟩ : ∃ X, le ((bs.drop n).take 4) = X := ⟨_, rfl⟩
  obtain ⟨Y, hY⟩ : ∃ Y, crc (bs.take n) = Y := ⟨_, rfl⟩
  rw [hX] at cg ⊢
  rw [hY] at cs ⊢
  clear hX hY hb hT hlen
  have hcn : ¬ cap = n := by omega
  have hd : decide ((l : Int) < (n : Int) + 4) = false := by simp; omega
  by_cases hxy : X = Y
  · subst hxy
    rw [if_pos (by simp)]
    go_enter Tryd.func44, Tryd.ntmps44
    go_wp2
    go_quiet (first | (go_at_call 45; exact Calls.quiet_of (cg _)) | (go_at_call 6; exact Calls.quiet_of_same (cs _)))
    go_wp2
    go_ret2
    exact ⟨rfl, _, rfl⟩
  · rw [if_neg (by simpa using hxy)]
    have hne : ((X : Int) != (Y : Int)) = true := by simp; omega
    go_enter Tryd.func44, Tryd.ntmps44
    go_wp2
    go_quiet (first | (go_at_call 45; exact Calls.quiet_of (cg _)) | (go_at_call 6; exact Calls.quiet_of_same (cs _)))
    go_wp2
    go_ret2
    exact ⟨rfl, _, rfl⟩

/-- summed: no. -/
theorem summed_no {w : World} {v : Value} {bs : List Nat} {n : Nat} (h : V w v bs) (hT : Tab w) (hl : bs.length ≤ 140737488351232) (hn : n ≤ 140737488351232) (hS : summedP bs n = false) :
    Calls Tryd.prog 44 #[v, .int .i64 (n : Int)] w fun e w' => e = .returned (.tuple #[.slice none 0 0, .bool false]) ∧ ∃ m, w' = w.drewN m := by
  by_cases hs : bs.length < n + 4
  · obtain ⟨ao, cap, rfl, _, _⟩ := h.form
    exact summed_short w ao bs.length cap n hn hs
  · rcases h with ⟨a1, c1, rfl, rfl⟩ | ⟨b, off, cap, rfl, hp1, hc, h1⟩
    · exact absurd hs (by simp)
    · have := summed_long w b off bs.length cap n bs h1 hT rfl hc hl (by omega)
      rw [hS] at this
      exact this

/-- summed: yes. -/
theorem summed_yes {w : World} {b off l cap : Nat} {bs : List Nat} {n : Nat} (h : At w b off bs) (hT : Tab w) (hlen : bs.length = l) (hc : l ≤ cap) (hl : l ≤ 140737488351232) (hS : summedP bs n = true) :
    Calls Tryd.prog 44 #[.slice (some ⟨b, off, none⟩) l cap, .int .i64 (n : Int)] w fun e w' => e = .returned (.tuple #[.slice (some ⟨b, off, none⟩) n cap, .bool true]) ∧ ∃ m, w' = w.drewN m := by
  have h4 : n + 4 ≤ bs.length := by unfold summedP at hS; simp at hS; exact hS.1
  have := summed_long w b off l cap n bs h hT hlen hc hl (by omega)
  rw [hS] at this
  exact this
end Go.Proofs.YtngmleddlfkecaaDoor
