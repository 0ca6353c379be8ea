import Derived.Test.YtmhjjpdfjilobaaDoorTq
import Derived.Test.YtmhjjpdfjilobaaDoorTr
import Derived.BigQuiet
import Derived.WideMake
import Derived.Room.AppendFits
/-
  DERIVED. Bytes held against each other; the terms of a set that was asked.
-/
namespace Go.Proofs.YtmhjjpdfjilobaaDoor
open Go Go.Proofs Go.RowKit

set_option maxRecDepth 100000 in
theorem bytes_other (w : World) (a1 a2 : Option Addr) (n1 n2 c1 c2 : Nat) (h : n1 ≠ n2) :
    Calls Tryd.prog 22 #[.slice a1 n1 c1, .slice a2 n2 c2] w fun e w' => e = .returned (.bool false) ∧ w = w' := by
  have h2 : ((n1 : Int) != (n2 : Int)) = true := by simp; omega
  go_enter Tryd.func22, Tryd.ntmps22
  go_wp2
  all_goals first | omega | (go_ret; exact ⟨rfl, rfl⟩)

theorem bytes_empty (w : World) (a1 a2 : Option Addr) (c1 c2 : Nat) :
    Calls Tryd.prog 22 #[.slice a1 0 c1, .slice a2 0 c2] w fun e w' => e = .returned (.bool true) ∧ w = w' := by
  go_enter Tryd.func22, Tryd.ntmps22
  go_wp2
  refine wp_loop_rounds 1 ?_
  rw [rounds_succ]
  go_wp2
  go_ret
  exact ⟨rfl, rfl⟩

theorem take_succ_eq {l1 l2 : List Nat} {k : Nat} (h1 : k < l1.length) (h2 : k < l2.length) : (l1.take (k + 1) = l2.take (k + 1)) ↔ (l1.take k = l2.take k ∧ l1.getD k 0 = l2.getD k 0) := by
  rw [List.take_add_one, List.take_add_one, List.getElem?_eq_getElem h1, List.getElem?_eq_getElem h2, List.getD_eq_getElem?_getD, List.getD_eq_getElem?_getD, List.getElem?_eq_getElem h1, List.getElem?_eq_getElem h2]
  simp only [Option.toList_some, Option.getD_some]
  constructor
  · intro h
    have := List.append_inj' h (by simp)
    simpa using this
  · rintro ⟨ha, hb⟩
    rw [ha, hb]

set_option maxRecDepth 100000 in
theorem bytes_some (w : World) (b1 o1 c1 b2 o2 c2 n : Nat) (l1 l2 : List Nat) (h1 : At w b1 o1 l1) (h2 : At w b2 o2 l2) (hn1 : n = l1.length) (hn2 : n = l2.length) (hl : n ≤ 140737488351232) :
    Calls Tryd.prog 22 #[.slice (some ⟨b1, o1, none⟩) n c1, .slice (some ⟨b2, o2, none⟩) n c2] w fun e w' => e = .returned (.bool (decide (l1 = l2))) ∧ ∃ m, w' = w.drewN m := by
  have HN1 : Hid (n = l1.length) := hn1
  have HN2 : Hid (n = l2.length) := hn2
  clear hn1 hn2
  go_enter Tryd.func22, Tryd.ntmps22
  go_wp2
  go_loopw [5] (fun i wr => ∃ k m : Nat, k ≤ n ∧ i = .int .i64 k ∧ wr = w.drewN m ∧ Hid (l1.take k = l2.take k)) (fun i _ => n - (intOf i).toNat)
  case atStart => exact ⟨0, 0, Nat.zero_le _, rfl, rfl, by simp [Hid]⟩
  case round =>
    obtain ⟨k, m, hk, rfl, rfl, HT⟩ := hrel
    by_cases hkn : k < n
    · obtain ⟨y1, HY1, hc1⟩ : ∃ y, Hid (y = l1.getD k 0) ∧ w.cell? ⟨b1, o1 + k, none⟩ = some (.int .u8 (y : Int)) := ⟨_, rfl, h1.1 k (by rw [← HN1.out]; exact hkn)⟩
      obtain ⟨y2, HY2, hc2⟩ : ∃ y, Hid (y = l2.getD k 0) ∧ w.cell? ⟨b2, o2 + k, none⟩ = some (.int .u8 (y : Int)) := ⟨_, rfl, h2.1 k (by rw [← HN2.out]; exact hkn)⟩
      have HS := take_succ_eq (l1 := l1) (l2 := l2) (k := k) (by rw [← HN1.out]; exact hkn) (by rw [← HN2.out]; exact hkn)
      rw [← HY1.out, ← HY2.out] at HS
      by_cases hy : y1 = y2
      · have HS' : Hid (l1.take (k + 1) = l2.take (k + 1)) := HS.2 ⟨HT.out, hy⟩
        subst hy
        clear HS
        go_wp2
        go_quiet (fail)
        go_wp2
        go_roundw
        case rel => exact ⟨k + 1, _, by omega, by go_num, rfl, HS'⟩
        case measure => simp [intOf]; omega
      · have HS' : Hid (decide (l1 = l2) = false) := by
          show _ = _
          simp only [decide_eq_false_iff_not]
          intro he
          exact hy (HS.1 (by rw [he])).2
        have hy' : ((y1 : Int) != (y2 : Int)) = true := by simp; omega
        clear HS
        go_wp2
        go_quiet (fail)
        go_wp2
        go_ret
        exact ⟨by rw [HS'.out]; rfl, _, World.drewN_drewN ..⟩
    · have hkn' : k = n := by omega
      subst hkn'
      have HE : Hid (decide (l1 = l2) = true) := by
        show _ = _
        have := HT.out
        rw [HN1.out, List.take_length, ← HN1.out, HN2.out, List.take_length] at this
        simp [this]
      go_wp2
      go_ret
      exact ⟨by rw [HE.out]; rfl, _, rfl⟩

/-- Bytes: held against each other. -/
theorem bytes_any {w : World} {v1 v2 : Value} {l1 l2 : List Nat} (h1 : V w v1 l1) (h2 : V w v2 l2) (hl : l1.length ≤ 140737488351232) :
    Calls Tryd.prog 22 #[v1, v2] w fun e w' => e = .returned (.bool (decide (l1 = l2))) ∧ ∃ m, w' = w.drewN m := by
  by_cases hlen : l1.length = l2.length
  · rcases h1 with ⟨a1, c1, rfl, rfl⟩ | ⟨b1, o1, c1, rfl, hp1, _, h1⟩
    · rcases h2 with ⟨a2, c2, rfl, rfl⟩ | ⟨b2, o2, c2, rfl, hp2, _, h2⟩
      · refine (bytes_empty w a1 a2 c1 c2).mono ?_; rintro e w' ⟨rfl, rfl⟩; exact ⟨by simp, 0, rfl⟩
      · simp at hlen; omega
    · rcases h2 with ⟨a2, c2, rfl, rfl⟩ | ⟨b2, o2, c2, rfl, hp2, _, h2⟩
      · exact absurd hlen (by simp; intro h; rw [h] at hp1; exact absurd hp1 (by decide))
      · rw [← hlen]
        exact bytes_some w b1 o1 c1 b2 o2 c2 _ l1 l2 h1 h2 rfl hlen hl
  · have hd : decide (l1 = l2) = false := by simp; intro h; exact hlen (by rw [h])
    rw [hd]
    rcases h1 with ⟨a1, c1, rfl, rfl⟩ | ⟨b1, o1, c1, rfl, hp1, _, h1⟩ <;> rcases h2 with ⟨a2, c2, rfl, rfl⟩ | ⟨b2, o2, c2, rfl, hp2, _, h2⟩ <;> (refine (bytes_other w _ _ _ _ _ _ hlen).mono ?_; rintro e w' ⟨rfl, rfl⟩; exact ⟨rfl, 0, rfl⟩)



set_option maxRecDepth 100000 in
set_option maxHeartbeats 1000000 in
theorem terms_in (w : World) (q : Nat) (v : Value) (r0 : Row) (R0 : List Row) (x : Bool) (hR : (r0 :: R0).length ≤ 6) (h : SetIn w q v (r0 :: R0) x) :
    Calls Tryd.prog 9 #[.pointer (some ⟨q, 0, none⟩)] w fun e w' => ∃ u, e = .returned u ∧ w'.ownsRow w.heap.size 9 1 u (r0 :: R0).length (strsC (termsOf (r0 :: R0))) ∧ Below w.heap.size w w' := by
  have c25 := madeIn w q v r0 R0 x h
  generalize hRR : (r0 :: R0) = R at h hR ⊢
  obtain ⟨a, cap, rfl⟩ := h.val
  have HS : Hid (SetIn w q (.slice a R.length cap) R x) := h
  have h0 := h.c0
  obtain ⟨n, hn⟩ : ∃ n, R.length = n := ⟨_, rfl⟩
  have HN : Hid (R.length = n) := hn
  rw [hn] at h0 hR ⊢
  obtain ⟨i0, hi, hz0, hz1, hz2⟩ := info_parts strInfo
  obtain ⟨B, hB⟩ : ∃ B, w.heap.size = B := ⟨_, rfl⟩
  rw [hB]
  have HB : Hid (B = w.heap.size) := hB.symm
  clear h hn hRR
  go_enter Tryd.func9, Tryd.ntmps9
  go_wp2_with (go_at_call 25; refine c25.mono ?_; rintro e W ⟨rfl, rfl⟩)
  go_loopw [3, 14] (fun u y wr => ∃ k : Nat, y = .int .i64 (k : Int) ∧ k ≤ n ∧ Hid (wr.ownsRow B 9 1 u k (strsC ((termsOf R).take k))) ∧ Hid (Below B w wr)) (fun _ y _ => n - (intOf y).toNat)
  case atStart => exact ⟨0, rfl, by omega, World.ownsRow_nil _ _ _ _, Below.refl _ _⟩
  case round =>
    obtain ⟨k, rfl, hk, HO, HBr⟩ := hrel
    by_cases hkn : k < n
    · have hkR : k < R.length := by rw [HN.out]; exact hkn
      obtain ⟨r, hr⟩ : ∃ r, R[k]? = some r := ⟨R[k], List.getElem?_eq_getElem hkR⟩
      have hSr := HS.out.on (HB.out ▸ HBr.out)
      obtain ⟨g, rfl, hng, r0, r1, r2, r3, r4⟩ := hSr.row k r hr
      have HT : Hid ((termsOf R)[k]? = some r.2.1) := termsOf_get hr
      clear hr hSr hng
      obtain ⟨rn, rs, rB⟩ := r
      simp only at r0 r1 r2 r3 r4
      unfold invF at r4
      generalize sp (3 * rn + 2) = E at r2
      generalize mfN rn = jj at r3
      generalize caps rB = P at r4
      obtain ⟨W2, hW2⟩ : ∃ W2, wr.alloc (.cells #[.int .i64 (rn : Int), .string rs, .string E, .func (.func jj) #[] #[], .func (.func 81) #[] P] 62) = W2 := ⟨_, rfl⟩
      have hbs : B ≤ wr.heap.size := by have := HBr.out.size; rw [HB.out]; exact this
      have HB2 : Hid (Below B w W2) := hW2 ▸ HBr.out.alloc hbs _
      have HO2 : Hid (W2.ownsRow B 9 1 u3 k (strsC ((termsOf R).take k))) := hW2 ▸ HO.out.alloc _
      have hb2 : B ≤ (W2.alloc (.cells #[.string rs] 9)).heap.size := by rw [← hW2]; simp; omega
      have hb2' : B ≤ W2.heap.size := by rw [← hW2]; simp; omega
      have e1 : W2.cell? ⟨wr.heap.size, 1, none⟩ = some (.string rs) := by rw [← hW2]; simp
      have hki : (k : Int) < (n : Int) := by omega
      have h63 : k + 1 ≤ maxLen := by unfold maxLen; omega
      have hby : (k + 1) * 16 ≤ 140737488355328 := by omega
      go_wp2_with (first | (at_builtin; refine wpList_append_lies _ rfl (.tmp 18) (.tmp 21) 22 rfl B 9 i0 _ 1 16 Tryd.underlying22 hi hz0 hz1 hz2 rfl (by decide) u3 k (strsC ((termsOf R).take k)) rfl (HO2.out.alloc _) ⟨W2.heap.size, 0, none⟩ 1 1 [.string rs] rfl rfl (World.news_of_block (heap_alloc_new W2 _)) (strs_one [rs]) (by decide) h63 hby hb2 _ rfl ?_) | fail)
      intro g4 cap4 W4 hown4 hgrow4 hat4 hlt4
      rw [strsC_take HT.out] at hown4
      have HO4 : Hid _ := hown4
      have HB4 : Hid (Below B w W4) := by
        refine (HB2.out.alloc hb2' _).trans ⟨hgrow4.os, hgrow4.tape, hgrow4.output, hgrow4.size, fun j hj => hgrow4.block j (by simp; omega) ?_⟩
        intro e
        have := (HO2.out.lt j e.symm).1
        omega
      clear hown4 hgrow4 hat4 hlt4
      go_wp2
      go_roundw
      case rel => exact ⟨k + 1, by simp, by omega, HO4.out, HB4.out⟩
      case measure => simp [intOf]; omega
    · obtain rfl : k = n := by omega
      have hO := HO.out
      rw [List.take_of_length_le (by unfold termsOf; rw [List.length_map, HN.out]; exact Nat.le_refl _)] at hO
      have HO2 : Hid _ := hO
      clear hO
      go_wp2
      go_ret
      exact ⟨_, rfl, HO2.out, HBr.out⟩


end Go.Proofs.YtmhjjpdfjilobaaDoor
