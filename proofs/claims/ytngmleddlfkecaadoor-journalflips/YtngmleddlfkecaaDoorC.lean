import Derived.Test.YtngmleddlfkecaaDoorB
namespace Go.Proofs.YtngmleddlfkecaaDoor
open Go Go.Proofs Go.RowKit

/-- A slice value, read: these bytes. -/
def V (w : World) (v : Value) (bs : List Nat) : Prop :=
  (∃ ao cap, v = .slice ao 0 cap ∧ bs = []) ∨ (∃ b off cap, v = .slice (some ⟨b, off, none⟩) bs.length cap ∧ 0 < bs.length ∧ bs.length ≤ cap ∧ At w b off bs)

theorem bytes_other (w : World) (a1 a2 : Option Addr) (n1 n2 c1 c2 : Nat) (h : n1 ≠ n2) :
    Calls Tryd.prog 11 #[.slice a1 n1 c1, .slice a2 n2 c2] w fun e w' => e = .returned (.bool false) ∧ w = w' := by
  have h2 : ((n1 : Int) != (n2 : Int)) = true := by simp; omega
  go_enter Tryd.func11, Tryd.ntmps11
  go_wp2
  all_goals first | omega | (go_ret; exact ⟨rfl, rfl⟩)

theorem bytes_empty (w : World) (a1 a2 : Option Addr) (c1 c2 : Nat) :
    Calls Tryd.prog 11 #[.slice a1 0 c1, .slice a2 0 c2] w fun e w' => e = .returned (.bool true) ∧ w = w' := by
  go_enter Tryd.func11, Tryd.ntmps11
  go_wp2
  refine wp_loop_rounds 1 ?_
  rw [rounds_succ]
  go_wp2
  go_ret
  exact ⟨rfl, rfl⟩

theorem take_succ_eq {l1 l2 : List Nat} {k : Nat} (h1 : k < l1.length) (h2 : k < l2.length) : (l1.take (k + 1) = l2.take (k + 1)) ↔ (l1.take k = l2.take k ∧ l1.getD k 0 = l2.getD k 0) := by
  rw [List.take_add_one, List.take_add_one, List.getElem?_eq_getElem h1, List.getElem?_eq_getElem h2, List.getD_eq_getElem?_getD, List.getD_eq_getElem?_getD, List.getElem?_eq_getElem h1, List.getElem?_eq_getElem h2]
  simp only [Option.toList_some, Option.getD_some]
  constructor
  · intro h
    have := List.append_inj' h (by simp)
    simpa using this
  · rintro ⟨ha, hb⟩
    rw [ha, hb]

set_option maxRecDepth 100000 in
theorem bytes_some (w : World) (b1 o1 c1 b2 o2 c2 n : Nat) (l1 l2 : List Nat) (h1 : At w b1 o1 l1) (h2 : At w b2 o2 l2) (hn1 : n = l1.length) (hn2 : n = l2.length) (hl : n ≤ 140737488351232) :
    Calls Tryd.prog 11 #[.slice (some ⟨b1, o1, none⟩) n c1, .slice (some ⟨b2, o2, none⟩) n c2] w fun e w' => e = .returned (.bool (decide (l1 = l2))) ∧ ∃ m, w' = w.drewN m := by
  have HN1 : Hid (n = l1.length) := hn1
  have HN2 : Hid (n = l2.length) := hn2
  clear hn1 hn2
  go_enter Tryd.func11, Tryd.ntmps11
  go_wp2
  go_loopw [5] (fun i wr => ∃ k m : Nat, k ≤ n ∧ i = .int .i64 k ∧ wr = w.drewN m ∧ Hid (l1.take k = l2.take k)) (fun i _ => n - (intOf i).toNat)
  case atStart => exact ⟨0, 0, Nat.zero_le _, rfl, rfl, by simp [Hid]⟩
  case round =>
    obtain ⟨k, m, hk, rfl, rfl, HT⟩ := hrel
    by_cases hkn : k < n
    · obtain ⟨y1, HY1, hc1⟩ : ∃ y, Hid (y = l1.getD k 0) ∧ w.cell? ⟨b1, o1 + k, none⟩ = some (.int .u8 (y : Int)) := ⟨_, rfl, h1.1 k (by rw [← HN1.out]; exact hkn)⟩
      obtain ⟨y2, HY2, hc2⟩ : ∃ y, Hid (y = l2.getD k 0) ∧ w.cell? ⟨b2, o2 + k, none⟩ = some (.int .u8 (y : Int)) := ⟨_, rfl, h2.1 k (by rw [← HN2.out]; exact hkn)⟩
      have HS := take_succ_eq (l1 := l1) (l2 := l2) (k := k) (by rw [← HN1.out]; exact hkn) (by rw [← HN2.out]; exact hkn)
      rw [← HY1.out, ← HY2.out] at HS
      by_cases hy : y1 = y2
      · have HS' : Hid (l1.take (k + 1) = l2.take (k + 1)) := HS.2 ⟨HT.out, hy⟩
        subst hy
        clear HS
        go_wp2
        go_quiet (fail)
        go_wp2
        go_roundw
        case rel => exact ⟨k + 1, _, by omega, by go_num, rfl, HS'⟩
        case measure => simp [intOf]; omega
      · have HS' : Hid (decide (l1 = l2) = false) := by
          show _ = _
          simp only [decide_eq_false_iff_not]
          intro he
          exact hy (HS.1 (by rw [he])).2
        have hy' : ((y1 : Int) != (y2 : Int)) = true := by simp; omega
        clear HS
        go_wp2
        go_quiet (fail)
        go_wp2
        go_ret
        exact ⟨by rw [HS'.out]; rfl, _, World.drewN_drewN ..⟩
    · have hkn' : k = n := by omega
      subst hkn'
      have HE : Hid (decide (l1 = l2) = true) := by
        show _ = _
        have := HT.out
        rw [HN1.out, List.take_length, ← HN1.out, HN2.out, List.take_length] at this
        simp [this]
      go_wp2
      go_ret
      exact ⟨by rw [HE.out]; rfl, _, rfl⟩

/-- Bytes: held against each other. -/
theorem bytes_any {w : World} {v1 v2 : Value} {l1 l2 : List Nat} (h1 : V w v1 l1) (h2 : V w v2 l2) (hl : l1.length ≤ 140737488351232) :
    Calls Tryd.prog 11 #[v1, v2] w fun e w' => e = .returned (.bool (decide (l1 = l2))) ∧ ∃ m, w' = w.drewN m := by
  by_cases hlen : l1.length = l2.length
  · rcases h1 with ⟨a1, c1, rfl, rfl⟩ | ⟨b1, o1, c1, rfl, hp1, _, h1⟩
    · rcases h2 with ⟨a2, c2, rfl, rfl⟩ | ⟨b2, o2, c2, rfl, hp2, _, h2⟩
      · refine (bytes_empty w a1 a2 c1 c2).mono ?_; rintro e w' ⟨rfl, rfl⟩; exact ⟨by simp, 0, rfl⟩
      · simp at hlen; omega
    · rcases h2 with ⟨a2, c2, rfl, rfl⟩ | ⟨b2, o2, c2, rfl, hp2, _, h2⟩
      · exact absurd hlen (by simp; intro h; rw [h] at hp1; exact absurd hp1 (by decide))
      · rw [← hlen]
        exact bytes_some w b1 o1 c1 b2 o2 c2 _ l1 l2 h1 h2 rfl hlen hl
  · have hd : decide (l1 = l2) = false := by simp; intro h; exact hlen (by rw [h])
    rw [hd]
    rcases h1 with ⟨a1, c1, rfl, rfl⟩ | ⟨b1, o1, c1, rfl, hp1, _, h1⟩ <;> rcases h2 with ⟨a2, c2, rfl, rfl⟩ | ⟨b2, o2, c2, rfl, hp2, _, h2⟩ <;> (refine (bytes_other w _ _ _ _ _ _ hlen).mono ?_; rintro e w' ⟨rfl, rfl⟩; exact ⟨rfl, 0, rfl⟩)

/-- Sum. -/
theorem sum_any {w : World} {v : Value} {bs : List Nat} (h : V w v bs) (hT : Tab w) (hl : bs.length ≤ 140737488351232) :
    Calls Tryd.prog 6 #[v] w fun e w' => e = .returned (.int .u32 (crc bs : Nat)) ∧ w = w' := by
  rcases h with ⟨a1, c1, rfl, rfl⟩ | ⟨b1, o1, c1, rfl, hp1, _, h1⟩
  · exact sum_empty w a1 c1
  · exact sum_some w b1 o1 c1 bs h1 hT hl

/-- The document's Sum. -/
theorem rsum_any {w : World} {v : Value} {bs : List Nat} (h : V w v bs) (hl : bs.length ≤ 140737488351232) :
    Calls Tryd.prog 23 #[v] w fun e w' => e = .returned (.int .u32 (crc bs : Nat)) ∧ w = w' := by
  rcases h with ⟨a1, c1, rfl, rfl⟩ | ⟨b1, o1, c1, rfl, hp1, _, h1⟩
  · exact rsum_empty w a1 c1
  · exact rsum_some w b1 o1 c1 bs h1 hl
end Go.Proofs.YtngmleddlfkecaaDoor
