import Derived.Test.YtehgeninocbpeaaGreatDoorCa
namespace Go.Proofs.YtehgeninocbpeaaGreatDoor.Tm
open Go Go.Proofs Go.RowKit
set_option maxRecDepth 100000 in
set_option maxHeartbeats 2000000 in
theorem indexFunc45 (W : World) (g cap : Nat) (xs : List ByteArray) (hn : xs.length ≤ 1000000000000) (cells : ∀ i (h : i < xs.length), W.cell? ⟨g, i, none⟩ = some (.string xs[i])) (p0 : Nat) (m : ByteArray → Bool)
    (hc : ∀ W', Below W.heap.size W W' → ∀ u ∈ xs, Calls Tryz.prog 45 #[.string u, ptr p0] W' (BoolP W' (m u))) :
    Calls Tryz.prog 47 #[.slice (some ⟨g, 0, none⟩) xs.length cap, .func (.func 45) #[] #[ptr p0]] W fun e w' => e = .returned (.int .i64 (fdx m xs 0)) ∧ Below W.heap.size W w' := by
  unfold ptr at hc ⊢
  obtain ⟨R, hR⟩ : ∃ R, fdx m xs 0 = R := ⟨_, rfl⟩
  have HR : Hid (fdx m (xs.drop 0) 0 = R) := hR
  rw [hR]
  obtain ⟨n, hl⟩ : ∃ n, xs.length = n := ⟨_, rfl⟩
  have HL : Hid (xs.length = n) := hl
  have HCe : Hid (∀ i (h : i < xs.length), W.cell? ⟨g, i, none⟩ = some (.string xs[i])) := cells
  have HC : Hid _ := hc
  rw [hl] at hn ⊢
  clear hR cells hc hl
  go_enter Tryz.func47, Tryz.ntmps47
  go_wp2
  go_loopg [8] n (fun k s8 wx => ∃ i : Nat, s8 = .int .i64 (i : Int) ∧ i ≤ n ∧ k + i = n ∧ Hid (fdx m (xs.drop i) i = R) ∧ Hid (Below W.heap.size W wx))
  case atStart => exact ⟨0, rfl, by omega, by omega, HR, Below.refl _ _⟩
  case round =>
    obtain ⟨i, rfl, hi, hg, HI, HB⟩ := hrel
    by_cases hlt : i < n
    · have hlx : i < xs.length := by have := HL.out; omega
      obtain ⟨u, hu⟩ : ∃ u, xs[i] = u := ⟨_, rfl⟩
      have cl : wr.cell? ⟨g, i, none⟩ = some (.string u) := by
        have h0 := HCe.out i hlx
        rw [hu] at h0
        exact (HB.out.cell (cell_lt h0)).trans h0
      have c := HC.out wr HB.out u (by rw [← hu]; exact List.getElem_mem hlx)
      have HI2 : Hid ((if m u = true then (i : Int) else fdx m (xs.drop (i + 1)) (i + 1)) = R) := by
        have := HI.out
        rw [List.drop_eq_getElem_cons hlx, fdx, hu] at this
        exact this
      clear HI hlx hu
      cases hm : m u with
      | true =>
        rw [hm] at c
        have e : Hid ((i : Int) = R) := by have := HI2.out; rw [if_pos hm] at this; exact this
        clear HI2 hm
        go_wp2_with (go_at_call 45; refine Stop.mk ?_)
        refine Stop.out (c.mono ?_)
        rintro e2 W2 ⟨rfl, hb2⟩
        have HB2 : Hid (Below W.heap.size W W2) := HB.out.trans (hb2.mono HB.out.size)
        clear hb2 c
        go_wp2
        go_ret
        exact ⟨by rw [← e.out]; rfl, HB2.out⟩
      | false =>
        rw [hm] at c
        have HI3 : Hid (fdx m (xs.drop (i + 1)) (i + 1) = R) := by have := HI2.out; rw [if_neg (by rw [hm]; simp)] at this; exact this
        clear HI2 hm
        go_wp2_with (go_at_call 45; refine Stop.mk ?_)
        refine Stop.out (c.mono ?_)
        rintro e2 W2 ⟨rfl, hb2⟩
        have HB2 : Hid (Below W.heap.size W W2) := HB.out.trans (hb2.mono HB.out.size)
        clear hb2 c
        go_wp2
        go_roundg (n - (i + 1))
        case measure => omega
        case rel => exact ⟨i + 1, by simp, by omega, by omega, HI3, HB2⟩
    · have e : Hid ((-1 : Int) = R) := by
        have := HI.out
        rw [List.drop_eq_nil_of_le (by have := HL.out; omega), fdx] at this
        exact this
      clear HI
      go_wp2
      go_ret
      exact ⟨by rw [← e.out]; rfl, HB.out⟩
set_option maxRecDepth 100000 in
theorem contains45 (W : World) (g cap : Nat) (xs : List ByteArray) (hn : xs.length ≤ 1000000000000) (cells : ∀ i (h : i < xs.length), W.cell? ⟨g, i, none⟩ = some (.string xs[i])) (p0 : Nat) (m : ByteArray → Bool)
    (hc : ∀ W', Below W.heap.size W W' → ∀ u ∈ xs, Calls Tryz.prog 45 #[.string u, ptr p0] W' (BoolP W' (m u))) :
    Calls Tryz.prog 19 #[.slice (some ⟨g, 0, none⟩) xs.length cap, .func (.func 45) #[] #[ptr p0]] W (BoolP W (xs.any m)) := by
  have c := indexFunc45 W g cap xs hn cells p0 m hc
  have e := fdx_any m xs 0
  have b := fdx_le m xs 0
  rw [← e]
  generalize fdx m xs 0 = R at *
  clear hc cells e
  generalize xs.length = n at *
  unfold ptr at c ⊢
  go_enter Tryz.func19, Tryz.ntmps19
  go_wp2_with (go_at_call 47; refine Stop.mk ?_)
  refine Stop.out (c.mono ?_)
  rintro e W1 ⟨rfl, hb⟩
  go_wp2
  go_ret
  exact ⟨rfl, hb⟩
set_option maxRecDepth 100000 in
set_option maxHeartbeats 2000000 in
theorem indexFunc65 (W : World) (g cap : Nat) (xs : List ByteArray) (hn : xs.length ≤ 1000000000000) (cells : ∀ i (h : i < xs.length), W.cell? ⟨g, i, none⟩ = some (.string xs[i])) (p0 : Nat) (m : ByteArray → Bool)
    (hc : ∀ W', Below W.heap.size W W' → ∀ u ∈ xs, Calls Tryz.prog 65 #[.string u, ptr p0] W' (BoolP W' (m u))) :
    Calls Tryz.prog 47 #[.slice (some ⟨g, 0, none⟩) xs.length cap, .func (.func 65) #[] #[ptr p0]] W fun e w' => e = .returned (.int .i64 (fdx m xs 0)) ∧ Below W.heap.size W w' := by
  unfold ptr at hc ⊢
  obtain ⟨R, hR⟩ : ∃ R, fdx m xs 0 = R := ⟨_, rfl⟩
  have HR : Hid (fdx m (xs.drop 0) 0 = R) := hR
  rw [hR]
  obtain ⟨n, hl⟩ : ∃ n, xs.length = n := ⟨_, rfl⟩
  have HL : Hid (xs.length = n) := hl
  have HCe : Hid (∀ i (h : i < xs.length), W.cell? ⟨g, i, none⟩ = some (.string xs[i])) := cells
  have HC : Hid _ := hc
  rw [hl] at hn ⊢
  clear hR cells hc hl
  go_enter Tryz.func47, Tryz.ntmps47
  go_wp2
  go_loopg [8] n (fun k s8 wx => ∃ i : Nat, s8 = .int .i64 (i : Int) ∧ i ≤ n ∧ k + i = n ∧ Hid (fdx m (xs.drop i) i = R) ∧ Hid (Below W.heap.size W wx))
  case atStart => exact ⟨0, rfl, by omega, by omega, HR, Below.refl _ _⟩
  case round =>
    obtain ⟨i, rfl, hi, hg, HI, HB⟩ := hrel
    by_cases hlt : i < n
    · have hlx : i < xs.length := by have := HL.out; omega
      obtain ⟨u, hu⟩ : ∃ u, xs[i] = u := ⟨_, rfl⟩
      have cl : wr.cell? ⟨g, i, none⟩ = some (.string u) := by
        have h0 := HCe.out i hlx
        rw [hu] at h0
        exact (HB.out.cell (cell_lt h0)).trans h0
      have c := HC.out wr HB.out u (by rw [← hu]; exact List.getElem_mem hlx)
      have HI2 : Hid ((if m u = true then (i : Int) else fdx m (xs.drop (i + 1)) (i + 1)) = R) := by
        have := HI.out
        rw [List.drop_eq_getElem_cons hlx, fdx, hu] at this
        exact this
      clear HI hlx hu
      cases hm : m u with
      | true =>
        rw [hm] at c
        have e : Hid ((i : Int) = R) := by have := HI2.out; rw [if_pos hm] at this; exact this
        clear HI2 hm
        go_wp2_with (go_at_call 65; refine Stop.mk ?_)
        refine Stop.out (c.mono ?_)
        rintro e2 W2 ⟨rfl, hb2⟩
        have HB2 : Hid (Below W.heap.size W W2) := HB.out.trans (hb2.mono HB.out.size)
        clear hb2 c
        go_wp2
        go_ret
        exact ⟨by rw [← e.out]; rfl, HB2.out⟩
      | false =>
        rw [hm] at c
        have HI3 : Hid (fdx m (xs.drop (i + 1)) (i + 1) = R) := by have := HI2.out; rw [if_neg (by rw [hm]; simp)] at this; exact this
        clear HI2 hm
        go_wp2_with (go_at_call 65; refine Stop.mk ?_)
        refine Stop.out (c.mono ?_)
        rintro e2 W2 ⟨rfl, hb2⟩
        have HB2 : Hid (Below W.heap.size W W2) := HB.out.trans (hb2.mono HB.out.size)
        clear hb2 c
        go_wp2
        go_roundg (n - (i + 1))
        case measure => omega
        case rel => exact ⟨i + 1, by simp, by omega, by omega, HI3, HB2⟩
    · have e : Hid ((-1 : Int) = R) := by
        have := HI.out
        rw [List.drop_eq_nil_of_le (by have := HL.out; omega), fdx] at this
        exact this
      clear HI
      go_wp2
      go_ret
      exact ⟨by rw [← e.out]; rfl, HB.out⟩
set_option maxRecDepth 100000 in
theorem contains65 (W : World) (g cap : Nat) (xs : List ByteArray) (hn : xs.length ≤ 1000000000000) (cells : ∀ i (h : i < xs.length), W.cell? ⟨g, i, none⟩ = some (.string xs[i])) (p0 : Nat) (m : ByteArray → Bool)
    (hc : ∀ W', Below W.heap.size W W' → ∀ u ∈ xs, Calls Tryz.prog 65 #[.string u, ptr p0] W' (BoolP W' (m u))) :
    Calls Tryz.prog 19 #[.slice (some ⟨g, 0, none⟩) xs.length cap, .func (.func 65) #[] #[ptr p0]] W (BoolP W (xs.any m)) := by
  have c := indexFunc65 W g cap xs hn cells p0 m hc
  have e := fdx_any m xs 0
  have b := fdx_le m xs 0
  rw [← e]
  generalize fdx m xs 0 = R at *
  clear hc cells e
  generalize xs.length = n at *
  unfold ptr at c ⊢
  go_enter Tryz.func19, Tryz.ntmps19
  go_wp2_with (go_at_call 47; refine Stop.mk ?_)
  refine Stop.out (c.mono ?_)
  rintro e W1 ⟨rfl, hb⟩
  go_wp2
  go_ret
  exact ⟨rfl, hb⟩
set_option maxRecDepth 100000 in
set_option maxHeartbeats 2000000 in
theorem indexFunc68 (W : World) (g cap : Nat) (xs : List ByteArray) (hn : xs.length ≤ 1000000000000) (cells : ∀ i (h : i < xs.length), W.cell? ⟨g, i, none⟩ = some (.string xs[i])) (pv pa : Nat) (m : ByteArray → Bool)
    (hc : ∀ W', Below W.heap.size W W' → ∀ u ∈ xs, Calls Tryz.prog 68 #[.string u, ptr pv, ptr pa] W' (BoolP W' (m u))) :
    Calls Tryz.prog 47 #[.slice (some ⟨g, 0, none⟩) xs.length cap, .func (.func 68) #[] #[ptr pv, ptr pa]] W fun e w' => e = .returned (.int .i64 (fdx m xs 0)) ∧ Below W.heap.size W w' := by
  unfold ptr at hc ⊢
  obtain ⟨R, hR⟩ : ∃ R, fdx m xs 0 = R := ⟨_, rfl⟩
  have HR : Hid (fdx m (xs.drop 0) 0 = R) := hR
  rw [hR]
  obtain ⟨n, hl⟩ : ∃ n, xs.length = n := ⟨_, rfl⟩
  have HL : Hid (xs.length = n) := hl
  have HCe : Hid (∀ i (h : i < xs.length), W.cell? ⟨g, i, none⟩ = some (.string xs[i])) := cells
  have HC : Hid _ := hc
  rw [hl] at hn ⊢
  clear hR cells hc hl
  go_enter Tryz.func47, Tryz.ntmps47
  go_wp2
  go_loopg [8] n (fun k s8 wx => ∃ i : Nat, s8 = .int .i64 (i : Int) ∧ i ≤ n ∧ k + i = n ∧ Hid (fdx m (xs.drop i) i = R) ∧ Hid (Below W.heap.size W wx))
  case atStart => exact ⟨0, rfl, by omega, by omega, HR, Below.refl _ _⟩
  case round =>
    obtain ⟨i, rfl, hi, hg, HI, HB⟩ := hrel
    by_cases hlt : i < n
    · have hlx : i < xs.length := by have := HL.out; omega
      obtain ⟨u, hu⟩ : ∃ u, xs[i] = u := ⟨_, rfl⟩
      have cl : wr.cell? ⟨g, i, none⟩ = some (.string u) := by
        have h0 := HCe.out i hlx
        rw [hu] at h0
        exact (HB.out.cell (cell_lt h0)).trans h0
      have c := HC.out wr HB.out u (by rw [← hu]; exact List.getElem_mem hlx)
      have HI2 : Hid ((if m u = true then (i : Int) else fdx m (xs.drop (i + 1)) (i + 1)) = R) := by
        have := HI.out
        rw [List.drop_eq_getElem_cons hlx, fdx, hu] at this
        exact this
      clear HI hlx hu
      cases hm : m u with
      | true =>
        rw [hm] at c
        have e : Hid ((i : Int) = R) := by have := HI2.out; rw [if_pos hm] at this; exact this
        clear HI2 hm
        go_wp2_with (go_at_call 68; refine Stop.mk ?_)
        refine Stop.out (c.mono ?_)
        rintro e2 W2 ⟨rfl, hb2⟩
        have HB2 : Hid (Below W.heap.size W W2) := HB.out.trans (hb2.mono HB.out.size)
        clear hb2 c
        go_wp2
        go_ret
        exact ⟨by rw [← e.out]; rfl, HB2.out⟩
      | false =>
        rw [hm] at c
        have HI3 : Hid (fdx m (xs.drop (i + 1)) (i + 1) = R) := by have := HI2.out; rw [if_neg (by rw [hm]; simp)] at this; exact this
        clear HI2 hm
        go_wp2_with (go_at_call 68; refine Stop.mk ?_)
        refine Stop.out (c.mono ?_)
        rintro e2 W2 ⟨rfl, hb2⟩
        have HB2 : Hid (Below W.heap.size W W2) := HB.out.trans (hb2.mono HB.out.size)
        clear hb2 c
        go_wp2
        go_roundg (n - (i + 1))
        case measure => omega
        case rel => exact ⟨i + 1, by simp, by omega, by omega, HI3, HB2⟩
    · have e : Hid ((-1 : Int) = R) := by
        have := HI.out
        rw [List.drop_eq_nil_of_le (by have := HL.out; omega), fdx] at this
        exact this
      clear HI
      go_wp2
      go_ret
      exact ⟨by rw [← e.out]; rfl, HB.out⟩
set_option maxRecDepth 100000 in
theorem contains68 (W : World) (g cap : Nat) (xs : List ByteArray) (hn : xs.length ≤ 1000000000000) (cells : ∀ i (h : i < xs.length), W.cell? ⟨g, i, none⟩ = some (.string xs[i])) (pv pa : Nat) (m : ByteArray → Bool)
    (hc : ∀ W', Below W.heap.size W W' → ∀ u ∈ xs, Calls Tryz.prog 68 #[.string u, ptr pv, ptr pa] W' (BoolP W' (m u))) :
    Calls Tryz.prog 19 #[.slice (some ⟨g, 0, none⟩) xs.length cap, .func (.func 68) #[] #[ptr pv, ptr pa]] W (BoolP W (xs.any m)) := by
  have c := indexFunc68 W g cap xs hn cells pv pa m hc
  have e := fdx_any m xs 0
  have b := fdx_le m xs 0
  rw [← e]
  generalize fdx m xs 0 = R at *
  clear hc cells e
  generalize xs.length = n at *
  unfold ptr at c ⊢
  go_enter Tryz.func19, Tryz.ntmps19
  go_wp2_with (go_at_call 47; refine Stop.mk ?_)
  refine Stop.out (c.mono ?_)
  rintro e W1 ⟨rfl, hb⟩
  go_wp2
  go_ret
  exact ⟨rfl, hb⟩
set_option maxRecDepth 100000 in
set_option maxHeartbeats 2000000 in
theorem indexFunc72 (W : World) (g cap : Nat) (xs : List ByteArray) (hn : xs.length ≤ 1000000000000) (cells : ∀ i (h : i < xs.length), W.cell? ⟨g, i, none⟩ = some (.string xs[i])) (pv pa : Nat) (m : ByteArray → Bool)
    (hc : ∀ W', Below W.heap.size W W' → ∀ u ∈ xs, Calls Tryz.prog 72 #[.string u, ptr pv, ptr pa] W' (BoolP W' (m u))) :
    Calls Tryz.prog 47 #[.slice (some ⟨g, 0, none⟩) xs.length cap, .func (.func 72) #[] #[ptr pv, ptr pa]] W fun e w' => e = .returned (.int .i64 (fdx m xs 0)) ∧ Below W.heap.size W w' := by
  unfold ptr at hc ⊢
  obtain ⟨R, hR⟩ : ∃ R, fdx m xs 0 = R := ⟨_, rfl⟩
  have HR : Hid (fdx m (xs.drop 0) 0 = R) := hR
  rw [hR]
  obtain ⟨n, hl⟩ : ∃ n, xs.length = n := ⟨_, rfl⟩
  have HL : Hid (xs.length = n) := hl
  have HCe : Hid (∀ i (h : i < xs.length), W.cell? ⟨g, i, none⟩ = some (.string xs[i])) := cells
  have HC : Hid _ := hc
  rw [hl] at hn ⊢
  clear hR cells hc hl
  go_enter Tryz.func47, Tryz.ntmps47
  go_wp2
  go_loopg [8] n (fun k s8 wx => ∃ i : Nat, s8 = .int .i64 (i : Int) ∧ i ≤ n ∧ k + i = n ∧ Hid (fdx m (xs.drop i) i = R) ∧ Hid (Below W.heap.size W wx))
  case atStart => exact ⟨0, rfl, by omega, by omega, HR, Below.refl _ _⟩
  case round =>
    obtain ⟨i, rfl, hi, hg, HI, HB⟩ := hrel
    by_cases hlt : i < n
    · have hlx : i < xs.length := by have := HL.out; omega
      obtain ⟨u, hu⟩ : ∃ u, xs[i] = u := ⟨_, rfl⟩
      have cl : wr.cell? ⟨g, i, none⟩ = some (.string u) := by
        have h0 := HCe.out i hlx
        rw [hu] at h0
        exact (HB.out.cell (cell_lt h0)).trans h0
      have c := HC.out wr HB.out u (by rw [← hu]; exact List.getElem_mem hlx)
      have HI2 : Hid ((if m u = true then (i : Int) else fdx m (xs.drop (i + 1)) (i + 1)) = R) := by
        have := HI.out
        rw [List.drop_eq_getElem_cons hlx, fdx, hu] at this
        exact this
      clear HI hlx hu
      cases hm : m u with
      | true =>
        rw [hm] at c
        have e : Hid ((i : Int) = R) := by have := HI2.out; rw [if_pos hm] at this; exact this
        clear HI2 hm
        go_wp2_with (go_at_call 72; refine Stop.mk ?_)
        refine Stop.out (c.mono ?_)
        rintro e2 W2 ⟨rfl, hb2⟩
        have HB2 : Hid (Below W.heap.size W W2) := HB.out.trans (hb2.mono HB.out.size)
        clear hb2 c
        go_wp2
        go_ret
        exact ⟨by rw [← e.out]; rfl, HB2.out⟩
      | false =>
        rw [hm] at c
        have HI3 : Hid (fdx m (xs.drop (i + 1)) (i + 1) = R) := by have := HI2.out; rw [if_neg (by rw [hm]; simp)] at this; exact this
        clear HI2 hm
        go_wp2_with (go_at_call 72; refine Stop.mk ?_)
        refine Stop.out (c.mono ?_)
        rintro e2 W2 ⟨rfl, hb2⟩
        have HB2 : Hid (Below W.heap.size W W2) := HB.out.trans (hb2.mono HB.out.size)
        clear hb2 c
        go_wp2
        go_roundg (n - (i + 1))
        case measure => omega
        case rel => exact ⟨i + 1, by simp, by omega, by omega, HI3, HB2⟩
    · have e : Hid ((-1 : Int) = R) := by
        have := HI.out
        rw [List.drop_eq_nil_of_le (by have := HL.out; omega), fdx] at this
        exact this
      clear HI
      go_wp2
      go_ret
      exact ⟨by rw [← e.out]; rfl, HB.out⟩
set_option maxRecDepth 100000 in
theorem contains72 (W : World) (g cap : Nat) (xs : List ByteArray) (hn : xs.length ≤ 1000000000000) (cells : ∀ i (h : i < xs.length), W.cell? ⟨g, i, none⟩ = some (.string xs[i])) (pv pa : Nat) (m : ByteArray → Bool)
    (hc : ∀ W', Below W.heap.size W W' → ∀ u ∈ xs, Calls Tryz.prog 72 #[.string u, ptr pv, ptr pa] W' (BoolP W' (m u))) :
    Calls Tryz.prog 19 #[.slice (some ⟨g, 0, none⟩) xs.length cap, .func (.func 72) #[] #[ptr pv, ptr pa]] W (BoolP W (xs.any m)) := by
  have c := indexFunc72 W g cap xs hn cells pv pa m hc
  have e := fdx_any m xs 0
  have b := fdx_le m xs 0
  rw [← e]
  generalize fdx m xs 0 = R at *
  clear hc cells e
  generalize xs.length = n at *
  unfold ptr at c ⊢
  go_enter Tryz.func19, Tryz.ntmps19
  go_wp2_with (go_at_call 47; refine Stop.mk ?_)
  refine Stop.out (c.mono ?_)
  rintro e W1 ⟨rfl, hb⟩
  go_wp2
  go_ret
  exact ⟨rfl, hb⟩
def Good (w' : World) (F : Value) (m : ByteArray → Bool) (N : Nat) : Prop :=
  ∀ W', Below w'.heap.size w' W' → ∀ (g cap : Nat) (xs : List ByteArray), xs.length ≤ 1000000000000 → (∀ u ∈ xs, u.size ≤ N) → (∀ i (h : i < xs.length), W'.cell? ⟨g, i, none⟩ = some (.string xs[i])) →
    Calls Tryz.prog 19 #[.slice (some ⟨g, 0, none⟩) xs.length cap, F] W' (BoolP W' (xs.any m))
theorem Good.on {w W : World} {F : Value} {m : ByteArray → Bool} {N : Nat} (h : Good w F m N) (hb : Below w.heap.size w W) : Good W F m N :=
  fun W' hb' => h W' (hb.trans (hb'.mono hb.size))
def MtP (w : World) (m : ByteArray → Bool) (o : Option (Int × Int)) (N : Nat) (e : Ending) (w' : World) : Prop :=
  Below w.heap.size w w' ∧ ∃ F v, e = .returned (.tuple #[F, v]) ∧ PErr w' v o ∧ (o = none → Good w' F m N)
def PKy (w : World) (o : Option (Int × Int)) (e : Ending) (w' : World) : Prop := ∃ v, e = .returned v ∧ PErr w' v o ∧ Below w.heap.size w w'
theorem key_of (w : World) (vr : Int) (key : ByteArray) (m : ByteArray → Bool) (o : Option (Int × Int)) (N : Nat) (c : Calls Tryz.prog 17 #[.int .i64 vr, .string key] w (MtP w m o N)) :
    Calls Tryz.prog 15 #[.int .i64 vr, .string key] w (PKy w o) := by
  go_enter Tryz.func15, Tryz.ntmps15
  go_wp2_with (go_at_call 17; refine Stop.mk ?_)
  refine Stop.out (c.mono ?_)
  rintro e W1 ⟨hb, F, v, rfl, hv, _⟩
  go_wp2
  go_ret
  exact ⟨_, rfl, hv, hb⟩
set_option maxRecDepth 100000 in
set_option maxHeartbeats 2000000 in
theorem match_bad (w : World) (vr : Int) (key v : ByteArray) (m : ByteArray → Bool) (x : Int × Int) (N : Nat) (c : Calls Tryz.prog 17 #[.int .i64 vr, .string key] w (MtP w m (some x) N)) :
    Calls Tryz.prog 6 #[.int .i64 vr, .string key, .string v] w (PostR w (.bool false) (some x)) := by
  go_enter Tryz.func6, Tryz.ntmps6
  go_wp2_with (go_at_call 17; refine Stop.mk ?_)
  refine Stop.out (c.mono ?_)
  rintro e W1 ⟨hb, F, v, rfl, hv, _⟩
  have HV : Hid (PErr W1 v (some x)) := hv
  have HB : Hid (Below w.heap.size w W1) := hb
  obtain ⟨g, rfl, _⟩ := hv
  clear hb c
  go_wp2
  refine bodyPost_ret (v := .tuple #[.bool false, .iface 88 (.pointer (some ⟨g, 0, none⟩))]) (by simp [results, Tryz.results6, go_sem]) rfl ⟨_, rfl, HV.out, HB.out⟩
set_option maxRecDepth 100000 in
set_option maxHeartbeats 2000000 in
theorem match_good (w : World) (vr : Int) (hv2 : rC vr = true) (key v : ByteArray) (hvs : v.size ≤ 2097152) (m : ByteArray → Bool) (hR : Rt w) (cM : Calls Tryz.prog 17 #[.int .i64 vr, .string key] w (MtP w m none 2097152)) :
    Calls Tryz.prog 6 #[.int .i64 vr, .string key, .string v] w (PostR w (.bool ((Sp.spB v).any m)) none) := by
  have cR := fun W h => ruleOf_any W vr h
  rw [hv2] at cR
  have cS := fun W => Sp.str_split v W (by omega)
  have hlen := Sp.spB_len v
  have hsz := spB_size v
  have HSZ : Hid (∀ u ∈ Sp.spB v, u.size ≤ 2097152) := fun u hu => by have := hsz u hu; omega
  generalize Sp.spB v = xs at *
  obtain ⟨Z, hZ⟩ : ∃ Z, xs.any m = Z := ⟨_, rfl⟩
  have HZ : Hid (xs.any m = Z) := hZ
  rw [hZ]
  clear hZ
  have HR : Hid (Rt w) := hR
  clear hR hsz hv2
  go_enter Tryz.func6, Tryz.ntmps6
  go_wp2_with (go_at_call 17; refine Stop.mk ?_)
  refine Stop.out (cM.mono ?_)
  rintro e W1 ⟨hb1, F, vv, rfl, hvv, hG⟩
  obtain rfl : vv = .nilIface := hvv
  have HB1 : Hid (Below w.heap.size w W1) := hb1
  have HK : Hid (Good W1 F m 2097152) := hG rfl
  have cr := cR W1 (HR.out.on hb1)
  clear hb1 cM cR HR hG
  go_wp2_with (go_at_call 18; refine Stop.mk ?_)
  refine Stop.out (cr.mono ?_)
  rintro e W2 ⟨rfl, hb2⟩
  have hf := field1 W2 (rB vr) true
  have HB2 : Hid (Below w.heap.size w W2) := HB1.out.trans (hb2.mono HB1.out.size)
  have HK2 : Hid (Good W2 F m 2097152) := HK.out.on hb2
  clear HB1 HK hb2 cr
  go_wp2_with (go_at_call 20; refine Stop.mk ?_)
  refine Stop.out ((cS W2).mono ?_)
  rintro e W3 ⟨rfl, hw3⟩
  have hb3 : Below W2.heap.size W2 W3 := hw3 ▸ (Below.refl _ _).alloc (Nat.le_refl _) _
  have HB3 : Hid (Below w.heap.size w W3) := HB2.out.trans (hb3.mono HB2.out.size)
  have cc := HK2.out W3 hb3 W2.heap.size xs.length xs (by omega) HSZ.out (cells_of hw3)
  rw [HZ.out] at cc
  clear HK2 HB2 hb3 cS hw3 HSZ
  generalize xs.length = n at *
  go_wp2_with (go_at_call 19; refine Stop.mk ?_)
  refine Stop.out (cc.mono ?_)
  rintro e W4 ⟨rfl, hb4⟩
  have HB4 : Hid (Below w.heap.size w W4) := HB3.out.trans (hb4.mono HB3.out.size)
  clear hb4 cc HB3
  go_wp2
  refine bodyPost_ret (v := .tuple #[.bool Z, .nilIface]) (by simp [results, Tryz.results6, go_sem]) rfl ⟨_, rfl, rfl, HB4.out⟩
def eqB (u k : ByteArray) : Bool := decide (u = k)
theorem eqB_of (u k : ByteArray) : (u.toList == k.toList) = eqB u k := by
  unfold eqB
  rw [Bool.eq_iff_iff, beq_iff_eq, decide_eq_true_eq, ByteArray.toList_eq, ByteArray.toList_eq]
  constructor
  · intro h
    exact ByteArray.ext (Array.toList_inj.1 h)
  · rintro rfl; rfl
theorem clos45 (W : World) (p : Nat) (key u : ByteArray) (hp : W.cell? ⟨p, 0, none⟩ = some (.string key)) : Calls Tryz.prog 45 #[.string u, ptr p] W (BoolP W (eqB u key)) := by
  rw [← eqB_of]
  unfold ptr
  go_enter Tryz.func45, Tryz.ntmps45
  go_wp2
  go_ret
  exact ⟨rfl, Below.refl _ _⟩
theorem good45 {W : World} {p : Nat} {key : ByteArray} (hp : W.cell? ⟨p, 0, none⟩ = some (.string key)) (N : Nat) : Good W (.func (.func 45) #[] #[ptr p]) (fun u => eqB u key) N :=
  fun W' hb g cap xs hn _ cells => contains45 W' g cap xs hn cells p (fun u => eqB u key) (fun W2 hb2 u _ => clos45 W2 p key u ((hb2.cell (cell_lt ((hb.cell (cell_lt hp)).trans hp))).trans ((hb.cell (cell_lt hp)).trans hp)))
theorem good38 {W : World} {p : Nat} {key : ByteArray} (hp : W.cell? ⟨p, 0, none⟩ = some (.string key)) (hk : key.size ≤ 2097152) : Good W (.func (.func 38) #[] #[ptr p]) (fits key) 2097152 :=
  fun W' hb g cap xs hn hx cells => contains38 W' g cap xs hn cells p (fits key) (fun W2 hb2 u hu => clos38 W2 p key u ((hb2.cell (cell_lt ((hb.cell (cell_lt hp)).trans hp))).trans ((hb.cell (cell_lt hp)).trans hp)) hk (hx u hu))
theorem matcher_bytes (w : World) (vr : Int) (hv : rB vr = 7) (key : ByteArray) (hk0 : key.size ≠ 0) (hR : Rt w) : Calls Tryz.prog 17 #[.int .i64 vr, .string key] w (MtP w (fun u => eqB u key) none 2097152) := by
  obtain ⟨W0, hW0⟩ : ∃ W0, w.alloc (.cells #[.string key] 9) = W0 := ⟨_, rfl⟩
  have hb0 : Below w.heap.size w W0 := hW0 ▸ (Below.refl _ _).alloc (Nat.le_refl _) _
  have c0 : W0.cell? ⟨w.heap.size, 0, none⟩ = some (.string key) := by rw [← hW0]; simp
  have cR := ruleOf_any W0 vr (hR.on hb0)
  rw [hv] at cR
  have HB : Hid (Below w.heap.size w W0) := hb0
  have hke := text_some hk0
  clear hR hb0 hk0 hv
  go_enter Tryz.func17, Tryz.ntmps17
  go_wp2_with (go_at_call 18; refine Stop.mk ?_)
  refine Stop.out (cR.mono ?_)
  rintro e W1 ⟨rfl, hb⟩
  have hf := field0 W1 7 (rC vr)
  have c1 : Hid (W1.cell? ⟨w.heap.size, 0, none⟩ = some (.string key)) := (hb.cell (cell_lt c0)).trans c0
  have HB1 : Hid (Below w.heap.size w W1) := HB.out.trans (hb.mono HB.out.size)
  clear cR hb HB c0 hW0
  go_wp2
  refine bodyPost_ret (v := .tuple #[.func (.func 45) #[] #[ptr w.heap.size], .nilIface]) (by simp [results, Tryz.results17, go_sem, ptr]) rfl ⟨HB1.out, _, _, rfl, rfl, fun _ => good45 c1.out _⟩
theorem matcher_kind (w : World) (vr : Int) (hv : rB vr = 0) (key : ByteArray) (hk0 : key.size ≠ 0) (hR : Rt w) (m : ByteArray → Bool) (N : Nat) : Calls Tryz.prog 17 #[.int .i64 vr, .string key] w (MtP w m (some (0, 105)) N) := by
  obtain ⟨W0, hW0⟩ : ∃ W0, w.alloc (.cells #[.string key] 9) = W0 := ⟨_, rfl⟩
  have hb0 : Below w.heap.size w W0 := hW0 ▸ (Below.refl _ _).alloc (Nat.le_refl _) _
  have c0 : W0.cell? ⟨w.heap.size, 0, none⟩ = some (.string key) := by rw [← hW0]; simp
  have cR := ruleOf_any W0 vr (hR.on hb0)
  rw [hv] at cR
  have cN := fun W => refusal_any 0 105 W
  have HB : Hid (Below w.heap.size w W0) := hb0
  have hke := text_some hk0
  clear hR hb0 hk0 hv
  go_enter Tryz.func17, Tryz.ntmps17
  go_wp2_with (go_at_call 18; refine Stop.mk ?_)
  refine Stop.out (cR.mono ?_)
  rintro e W1 ⟨rfl, hb⟩
  have hf := field0 W1 0 (rC vr)
  have HB1 : Hid (Below w.heap.size w W1) := HB.out.trans (hb.mono HB.out.size)
  clear cR hb HB c0 hW0
  go_wp2_with (go_at_call 46; refine Stop.mk ?_)
  refine Stop.out ((cN _).mono ?_)
  rintro e W2 ⟨v, rfl, hv, hb2⟩
  have HB2 : Hid (Below w.heap.size w W2) := HB1.out.trans (hb2.mono HB1.out.size)
  have HV : Hid (PErr W2 v (some (0, 105))) := hv
  obtain ⟨g, rfl, _⟩ := hv
  clear hb2 HB1 cN
  go_wp2
  refine bodyPost_ret (v := .tuple #[.nilFunc, .iface 88 (.pointer (some ⟨g, 0, none⟩))]) (by simp [results, Tryz.results17, go_sem]) rfl ⟨HB2.out, _, _, rfl, HV.out, fun h => by cases h⟩
theorem matcher_pat' (w : World) (vr : Int) (hv : rB vr = 3) (key : ByteArray) (hk : key.size ≤ 2097152) (hk0 : key.size ≠ 0) (hR : Rt w) : Calls Tryz.prog 17 #[.int .i64 vr, .string key] w (MtP w (fits key) none 2097152) :=
  (matcher_pat w vr hv key hk0 hR).mono fun _ _ ⟨_, he, hp, hb⟩ => ⟨hb, _, _, he, rfl, fun _ => good38 hp hk⟩
theorem matcher_sp' (w : World) (vr : Int) (hv : isSp vr) (key : ByteArray) (hk : key.size ≤ 2097152) (hk0 : key.size ≠ 0) (hT : Mt w) (hO : Ot w) (hR : Rt w) : Calls Tryz.prog 17 #[.int .i64 vr, .string key] w (MtP w (spM vr (ask vr key).1.1 (ask vr key).1.2) (ask vr key).2 2097152) := by
  refine (matcher_sp w vr hv key (by omega) hk0 hT hO hR).mono fun e w' ⟨hb, h⟩ => ⟨hb, ?_⟩
  rcases h with ⟨ho, pv, pa, he, hC⟩ | ⟨ho, v, he, hV⟩
  · refine ⟨_, _, he, ?_, fun _ W' hb' g cap xs hn hx cells => contains60 W' g cap xs hn cells pv pa _ (fun W2 hb2 u hu => clos60 W2 pv pa vr _ _ hv u (by have := hx u hu; omega) ((hC.on hb').on hb2))⟩
    rw [ho]; rfl
  · exact ⟨_, _, he, hV, fun h => absurd h ho⟩
end Go.Proofs.YtehgeninocbpeaaGreatDoor.Tm
