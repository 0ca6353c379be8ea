import Derived.Test.YtehgeninocbpeaaGreatDoorVb
import Derived.Test.YtehgeninocbpeaaGreatDoorGC
/-
  DERIVED. Closures of a key: any, by pattern; the empty key; keys that are patterns.
-/
namespace Go.Proofs.YtehgeninocbpeaaGreatDoor.Tm
open Go Go.Proofs Go.RowKit

set_option maxRecDepth 100000 in
set_option maxHeartbeats 2000000 in
theorem indexFunc35 (W : World) (g cap : Nat) (xs : List ByteArray) (hn : xs.length ≤ 1000000000000) (cells : ∀ i (h : i < xs.length), W.cell? ⟨g, i, none⟩ = some (.string xs[i])) (m : ByteArray → Bool)
    (hc : ∀ W', Below W.heap.size W W' → ∀ u ∈ xs, Calls Tryz.prog 35 #[.string u] W' (BoolP W' (m u))) :
    Calls Tryz.prog 47 #[.slice (some ⟨g, 0, none⟩) xs.length cap, .func (.func 35) #[] #[]] W fun e w' => e = .returned (.int .i64 (fdx m xs 0)) ∧ Below W.heap.size W w' := by
  obtain ⟨R, hR⟩ : ∃ R, fdx m xs 0 = R := ⟨_, rfl⟩
  have HR : Hid (fdx m (xs.drop 0) 0 = R) := hR
  rw [hR]
  obtain ⟨n, hl⟩ : ∃ n, xs.length = n := ⟨_, rfl⟩
  have HL : Hid (xs.length = n) := hl
  have HCe : Hid (∀ i (h : i < xs.length), W.cell? ⟨g, i, none⟩ = some (.string xs[i])) := cells
  have HC : Hid _ := hc
  rw [hl] at hn ⊢
  clear hR cells hc hl
  go_enter Tryz.func47, Tryz.ntmps47
  go_wp2
  go_loopg [8] n (fun k s8 wx => ∃ i : Nat, s8 = .int .i64 (i : Int) ∧ i ≤ n ∧ k + i = n ∧ Hid (fdx m (xs.drop i) i = R) ∧ Hid (Below W.heap.size W wx))
  case atStart => exact ⟨0, rfl, by omega, by omega, HR, Below.refl _ _⟩
  case round =>
    obtain ⟨i, rfl, hi, hg, HI, HB⟩ := hrel
    by_cases hlt : i < n
    · have hlx : i < xs.length := by have := HL.out; omega
      obtain ⟨u, hu⟩ : ∃ u, xs[i] = u := ⟨_, rfl⟩
      have cl : wr.cell? ⟨g, i, none⟩ = some (.string u) := by
        have h0 := HCe.out i hlx
        rw [hu] at h0
        exact (HB.out.cell (cell_lt h0)).trans h0
      have c := HC.out wr HB.out u (by rw [← hu]; exact List.getElem_mem hlx)
      have HI2 : Hid ((if m u = true then (i : Int) else fdx m (xs.drop (i + 1)) (i + 1)) = R) := by
        have := HI.out
        rw [List.drop_eq_getElem_cons hlx, fdx, hu] at this
        exact this
      clear HI hlx hu
      cases hm : m u with
      | true =>
        rw [hm] at c
        have e : Hid ((i : Int) = R) := by have := HI2.out; rw [if_pos hm] at this; exact this
        clear HI2 hm
        go_wp2_with (go_at_call 35; refine Stop.mk ?_)
        refine Stop.out (c.mono ?_)
        rintro e2 W2 ⟨rfl, hb2⟩
        have HB2 : Hid (Below W.heap.size W W2) := HB.out.trans (hb2.mono HB.out.size)
        clear hb2 c
        go_wp2
        go_ret
        exact ⟨by rw [← e.out]; rfl, HB2.out⟩
      | false =>
        rw [hm] at c
        have HI3 : Hid (fdx m (xs.drop (i + 1)) (i + 1) = R) := by have := HI2.out; rw [if_neg (by rw [hm]; simp)] at this; exact this
        clear HI2 hm
        go_wp2_with (go_at_call 35; refine Stop.mk ?_)
        refine Stop.out (c.mono ?_)
        rintro e2 W2 ⟨rfl, hb2⟩
        have HB2 : Hid (Below W.heap.size W W2) := HB.out.trans (hb2.mono HB.out.size)
        clear hb2 c
        go_wp2
        go_roundg (n - (i + 1))
        case measure => omega
        case rel => exact ⟨i + 1, by simp, by omega, by omega, HI3, HB2⟩
    · have e : Hid ((-1 : Int) = R) := by
        have := HI.out
        rw [List.drop_eq_nil_of_le (by have := HL.out; omega), fdx] at this
        exact this
      clear HI
      go_wp2
      go_ret
      exact ⟨by rw [← e.out]; rfl, HB.out⟩

set_option maxRecDepth 100000 in
theorem contains35 (W : World) (g cap : Nat) (xs : List ByteArray) (hn : xs.length ≤ 1000000000000) (cells : ∀ i (h : i < xs.length), W.cell? ⟨g, i, none⟩ = some (.string xs[i])) (m : ByteArray → Bool)
    (hc : ∀ W', Below W.heap.size W W' → ∀ u ∈ xs, Calls Tryz.prog 35 #[.string u] W' (BoolP W' (m u))) :
    Calls Tryz.prog 19 #[.slice (some ⟨g, 0, none⟩) xs.length cap, .func (.func 35) #[] #[]] W (BoolP W (xs.any m)) := by
  have c := indexFunc35 W g cap xs hn cells m hc
  have e := fdx_any m xs 0
  have b := fdx_le m xs 0
  rw [← e]
  generalize fdx m xs 0 = R at *
  clear hc cells e
  generalize xs.length = n at *
  go_enter Tryz.func19, Tryz.ntmps19
  go_wp2_with (go_at_call 47; refine Stop.mk ?_)
  refine Stop.out (c.mono ?_)
  rintro e W1 ⟨rfl, hb⟩
  go_wp2
  go_ret
  exact ⟨rfl, hb⟩

set_option maxRecDepth 100000 in
set_option maxHeartbeats 2000000 in
theorem indexFunc38 (W : World) (g cap : Nat) (xs : List ByteArray) (hn : xs.length ≤ 1000000000000) (cells : ∀ i (h : i < xs.length), W.cell? ⟨g, i, none⟩ = some (.string xs[i])) (p0 : Nat) (m : ByteArray → Bool)
    (hc : ∀ W', Below W.heap.size W W' → ∀ u ∈ xs, Calls Tryz.prog 38 #[.string u, ptr p0] W' (BoolP W' (m u))) :
    Calls Tryz.prog 47 #[.slice (some ⟨g, 0, none⟩) xs.length cap, .func (.func 38) #[] #[ptr p0]] W fun e w' => e = .returned (.int .i64 (fdx m xs 0)) ∧ Below W.heap.size W w' := by
  unfold ptr at hc ⊢
  obtain ⟨R, hR⟩ : ∃ R, fdx m xs 0 = R := ⟨_, rfl⟩
  have HR : Hid (fdx m (xs.drop 0) 0 = R) := hR
  rw [hR]
  obtain ⟨n, hl⟩ : ∃ n, xs.length = n := ⟨_, rfl⟩
  have HL : Hid (xs.length = n) := hl
  have HCe : Hid (∀ i (h : i < xs.length), W.cell? ⟨g, i, none⟩ = some (.string xs[i])) := cells
  have HC : Hid _ := hc
  rw [hl] at hn ⊢
  clear hR cells hc hl
  go_enter Tryz.func47, Tryz.ntmps47
  go_wp2
  go_loopg [8] n (fun k s8 wx => ∃ i : Nat, s8 = .int .i64 (i : Int) ∧ i ≤ n ∧ k + i = n ∧ Hid (fdx m (xs.drop i) i = R) ∧ Hid (Below W.heap.size W wx))
  case atStart => exact ⟨0, rfl, by omega, by omega, HR, Below.refl _ _⟩
  case round =>
    obtain ⟨i, rfl, hi, hg, HI, HB⟩ := hrel
    by_cases hlt : i < n
    · have hlx : i < xs.length := by have := HL.out; omega
      obtain ⟨u, hu⟩ : ∃ u, xs[i] = u := ⟨_, rfl⟩
      have cl : wr.cell? ⟨g, i, none⟩ = some (.string u) := by
        have h0 := HCe.out i hlx
        rw [hu] at h0
        exact (HB.out.cell (cell_lt h0)).trans h0
      have c := HC.out wr HB.out u (by rw [← hu]; exact List.getElem_mem hlx)
      have HI2 : Hid ((if m u = true then (i : Int) else fdx m (xs.drop (i + 1)) (i + 1)) = R) := by
        have := HI.out
        rw [List.drop_eq_getElem_cons hlx, fdx, hu] at this
        exact this
      clear HI hlx hu
      cases hm : m u with
      | true =>
        rw [hm] at c
        have e : Hid ((i : Int) = R) := by have := HI2.out; rw [if_pos hm] at this; exact this
        clear HI2 hm
        go_wp2_with (go_at_call 38; refine Stop.mk ?_)
        refine Stop.out (c.mono ?_)
        rintro e2 W2 ⟨rfl, hb2⟩
        have HB2 : Hid (Below W.heap.size W W2) := HB.out.trans (hb2.mono HB.out.size)
        clear hb2 c
        go_wp2
        go_ret
        exact ⟨by rw [← e.out]; rfl, HB2.out⟩
      | false =>
        rw [hm] at c
        have HI3 : Hid (fdx m (xs.drop (i + 1)) (i + 1) = R) := by have := HI2.out; rw [if_neg (by rw [hm]; simp)] at this; exact this
        clear HI2 hm
        go_wp2_with (go_at_call 38; refine Stop.mk ?_)
        refine Stop.out (c.mono ?_)
        rintro e2 W2 ⟨rfl, hb2⟩
        have HB2 : Hid (Below W.heap.size W W2) := HB.out.trans (hb2.mono HB.out.size)
        clear hb2 c
        go_wp2
        go_roundg (n - (i + 1))
        case measure => omega
        case rel => exact ⟨i + 1, by simp, by omega, by omega, HI3, HB2⟩
    · have e : Hid ((-1 : Int) = R) := by
        have := HI.out
        rw [List.drop_eq_nil_of_le (by have := HL.out; omega), fdx] at this
        exact this
      clear HI
      go_wp2
      go_ret
      exact ⟨by rw [← e.out]; rfl, HB.out⟩

set_option maxRecDepth 100000 in
theorem contains38 (W : World) (g cap : Nat) (xs : List ByteArray) (hn : xs.length ≤ 1000000000000) (cells : ∀ i (h : i < xs.length), W.cell? ⟨g, i, none⟩ = some (.string xs[i])) (p0 : Nat) (m : ByteArray → Bool)
    (hc : ∀ W', Below W.heap.size W W' → ∀ u ∈ xs, Calls Tryz.prog 38 #[.string u, ptr p0] W' (BoolP W' (m u))) :
    Calls Tryz.prog 19 #[.slice (some ⟨g, 0, none⟩) xs.length cap, .func (.func 38) #[] #[ptr p0]] W (BoolP W (xs.any m)) := by
  have c := indexFunc38 W g cap xs hn cells p0 m hc
  have e := fdx_any m xs 0
  have b := fdx_le m xs 0
  rw [← e]
  generalize fdx m xs 0 = R at *
  clear hc cells e
  generalize xs.length = n at *
  unfold ptr at c ⊢
  go_enter Tryz.func19, Tryz.ntmps19
  go_wp2_with (go_at_call 47; refine Stop.mk ?_)
  refine Stop.out (c.mono ?_)
  rintro e W1 ⟨rfl, hb⟩
  go_wp2
  go_ret
  exact ⟨rfl, hb⟩

set_option maxRecDepth 100000 in
set_option maxHeartbeats 2000000 in
theorem indexFunc99 (W : World) (g cap : Nat) (xs : List ByteArray) (hn : xs.length ≤ 1000000000000) (cells : ∀ i (h : i < xs.length), W.cell? ⟨g, i, none⟩ = some (.string xs[i])) (p0 : Nat) (m : ByteArray → Bool)
    (hc : ∀ W', Below W.heap.size W W' → ∀ u ∈ xs, Calls Tryz.prog 99 #[.string u, ptr p0] W' (BoolP W' (m u))) :
    Calls Tryz.prog 47 #[.slice (some ⟨g, 0, none⟩) xs.length cap, .func (.func 99) #[] #[ptr p0]] W fun e w' => e = .returned (.int .i64 (fdx m xs 0)) ∧ Below W.heap.size W w' := by
  unfold ptr at hc ⊢
  obtain ⟨R, hR⟩ : ∃ R, fdx m xs 0 = R := ⟨_, rfl⟩
  have HR : Hid (fdx m (xs.drop 0) 0 = R) := hR
  rw [hR]
  obtain ⟨n, hl⟩ : ∃ n, xs.length = n := ⟨_, rfl⟩
  have HL : Hid (xs.length = n) := hl
  have HCe : Hid (∀ i (h : i < xs.length), W.cell? ⟨g, i, none⟩ = some (.string xs[i])) := cells
  have HC : Hid _ := hc
  rw [hl] at hn ⊢
  clear hR cells hc hl
  go_enter Tryz.func47, Tryz.ntmps47
  go_wp2
  go_loopg [8] n (fun k s8 wx => ∃ i : Nat, s8 = .int .i64 (i : Int) ∧ i ≤ n ∧ k + i = n ∧ Hid (fdx m (xs.drop i) i = R) ∧ Hid (Below W.heap.size W wx))
  case atStart => exact ⟨0, rfl, by omega, by omega, HR, Below.refl _ _⟩
  case round =>
    obtain ⟨i, rfl, hi, hg, HI, HB⟩ := hrel
    by_cases hlt : i < n
    · have hlx : i < xs.length := by have := HL.out; omega
      obtain ⟨u, hu⟩ : ∃ u, xs[i] = u := ⟨_, rfl⟩
      have cl : wr.cell? ⟨g, i, none⟩ = some (.string u) := by
        have h0 := HCe.out i hlx
        rw [hu] at h0
        exact (HB.out.cell (cell_lt h0)).trans h0
      have c := HC.out wr HB.out u (by rw [← hu]; exact List.getElem_mem hlx)
      have HI2 : Hid ((if m u = true then (i : Int) else fdx m (xs.drop (i + 1)) (i + 1)) = R) := by
        have := HI.out
        rw [List.drop_eq_getElem_cons hlx, fdx, hu] at this
        exact this
      clear HI hlx hu
      cases hm : m u with
      | true =>
        rw [hm] at c
        have e : Hid ((i : Int) = R) := by have := HI2.out; rw [if_pos hm] at this; exact this
        clear HI2 hm
        go_wp2_with (go_at_call 99; refine Stop.mk ?_)
        refine Stop.out (c.mono ?_)
        rintro e2 W2 ⟨rfl, hb2⟩
        have HB2 : Hid (Below W.heap.size W W2) := HB.out.trans (hb2.mono HB.out.size)
        clear hb2 c
        go_wp2
        go_ret
        exact ⟨by rw [← e.out]; rfl, HB2.out⟩
      | false =>
        rw [hm] at c
        have HI3 : Hid (fdx m (xs.drop (i + 1)) (i + 1) = R) := by have := HI2.out; rw [if_neg (by rw [hm]; simp)] at this; exact this
        clear HI2 hm
        go_wp2_with (go_at_call 99; refine Stop.mk ?_)
        refine Stop.out (c.mono ?_)
        rintro e2 W2 ⟨rfl, hb2⟩
        have HB2 : Hid (Below W.heap.size W W2) := HB.out.trans (hb2.mono HB.out.size)
        clear hb2 c
        go_wp2
        go_roundg (n - (i + 1))
        case measure => omega
        case rel => exact ⟨i + 1, by simp, by omega, by omega, HI3, HB2⟩
    · have e : Hid ((-1 : Int) = R) := by
        have := HI.out
        rw [List.drop_eq_nil_of_le (by have := HL.out; omega), fdx] at this
        exact this
      clear HI
      go_wp2
      go_ret
      exact ⟨by rw [← e.out]; rfl, HB.out⟩

set_option maxRecDepth 100000 in
theorem contains99 (W : World) (g cap : Nat) (xs : List ByteArray) (hn : xs.length ≤ 1000000000000) (cells : ∀ i (h : i < xs.length), W.cell? ⟨g, i, none⟩ = some (.string xs[i])) (p0 : Nat) (m : ByteArray → Bool)
    (hc : ∀ W', Below W.heap.size W W' → ∀ u ∈ xs, Calls Tryz.prog 99 #[.string u, ptr p0] W' (BoolP W' (m u))) :
    Calls Tryz.prog 19 #[.slice (some ⟨g, 0, none⟩) xs.length cap, .func (.func 99) #[] #[ptr p0]] W (BoolP W (xs.any m)) := by
  have c := indexFunc99 W g cap xs hn cells p0 m hc
  have e := fdx_any m xs 0
  have b := fdx_le m xs 0
  rw [← e]
  generalize fdx m xs 0 = R at *
  clear hc cells e
  generalize xs.length = n at *
  unfold ptr at c ⊢
  go_enter Tryz.func19, Tryz.ntmps19
  go_wp2_with (go_at_call 47; refine Stop.mk ?_)
  refine Stop.out (c.mono ?_)
  rintro e W1 ⟨rfl, hb⟩
  go_wp2
  go_ret
  exact ⟨rfl, hb⟩


theorem clos35 (W : World) (u : ByteArray) : Calls Tryz.prog 35 #[.string u] W (BoolP W true) := by
  go_enter Tryz.func35, Tryz.ntmps35
  go_wp2
  go_ret
  exact ⟨rfl, Below.refl _ _⟩
/-- Does a text fit a pattern? -/
def fits (p u : ByteArray) : Bool := Gl.gm (Gl.elems p) (Gl.elems u)
theorem clos38 (W : World) (p : Nat) (key u : ByteArray) (hp : W.cell? ⟨p, 0, none⟩ = some (.string key)) (hk : key.size ≤ 2097152) (hu : u.size ≤ 2097152) : Calls Tryz.prog 38 #[.string u, ptr p] W (BoolP W (fits key u)) := by
  have c := Gl.glob_any W key u hk hu
  unfold fits ptr
  generalize Gl.gm (Gl.elems key) (Gl.elems u) = Z at *
  go_enter Tryz.func38, Tryz.ntmps38
  go_wp2_with (go_at_call 10; refine Stop.mk ?_)
  refine Stop.out (c.mono ?_)
  rintro e W1 ⟨rfl, hb⟩
  go_wp2
  go_ret
  exact ⟨rfl, hb⟩
theorem clos99 (W : World) (p : Nat) (key u : ByteArray) (hp : W.cell? ⟨p, 0, none⟩ = some (.string key)) (hk : key.size ≤ 2097152) (hu : u.size ≤ 2097152) : Calls Tryz.prog 99 #[.string u, ptr p] W (BoolP W (fits key u)) := by
  have c := Gl.glob_any W key u hk hu
  unfold fits ptr
  generalize Gl.gm (Gl.elems key) (Gl.elems u) = Z at *
  go_enter Tryz.func99, Tryz.ntmps99
  go_wp2_with (go_at_call 10; refine Stop.mk ?_)
  refine Stop.out (c.mono ?_)
  rintro e W1 ⟨rfl, hb⟩
  go_wp2
  go_ret
  exact ⟨rfl, hb⟩

theorem cells_of {W W' : World} {xs : List ByteArray} (h : W.alloc (.cells (xs.map Value.string).toArray 9) = W') : ∀ i (hi : i < xs.length), W'.cell? ⟨W.heap.size, i, none⟩ = some (.string xs[i]) := fun i hi => by
  rw [← h]
  have := (World.rowIs_alloc W (xs.map Value.string).toArray 9 (fun k => (xs.map Value.string).toArray.getD k undef) (row_lit _)).cell (i := i) (by simp; exact hi)
  rw [this]
  simp [Array.getD, hi]

/-- The empty key takes all. -/
theorem matcher_none (w : World) (vr : Int) : Calls Tryz.prog 17 #[.int .i64 vr, .string ⟨#[]⟩] w fun e w' => e = .returned (.tuple #[.func (.func 35) #[] #[], .nilIface]) ∧ Below w.heap.size w w' := by
  go_enter Tryz.func17, Tryz.ntmps17
  go_wp2
  refine bodyPost_ret (v := .tuple #[.func (.func 35) #[] #[], .nilIface]) (by simp [results, Tryz.results17, go_sem]) rfl ⟨rfl, (Below.refl _ _).alloc (Nat.le_refl _) _⟩

set_option maxRecDepth 100000 in
set_option maxHeartbeats 2000000 in
theorem match_none (w : World) (vr : Int) (v : ByteArray) (hvs : v.size ≤ 8000000) (hR : Rt w) : Calls Tryz.prog 6 #[.int .i64 vr, .string ⟨#[]⟩, .string v] w fun e w' => e = .returned (.tuple #[.bool true, .nilIface]) ∧ Below w.heap.size w w' := by
  have cM := matcher_none w vr
  have cS := fun W => Sp.str_split v W hvs
  have hlen := Sp.spB_len v
  have hne := Sp.spB_ne v
  generalize Sp.spB v = xs at *
  have hany : Hid (xs.any (fun _ => true) = true) := by
    cases xs with
    | nil => exact absurd rfl hne
    | cons a l => rfl
  have HR : Hid (Rt w) := hR
  clear hR hne
  go_enter Tryz.func6, Tryz.ntmps6
  go_wp2_with (go_at_call 17; refine Stop.mk ?_)
  refine Stop.out (cM.mono ?_)
  rintro e W1 ⟨rfl, hb1⟩
  have HB1 : Hid (Below w.heap.size w W1) := hb1
  have cr := ruleOf_any W1 vr (HR.out.on hb1)
  generalize rB vr = B at *
  cases hc : rC vr with
  | true =>
    rw [hc] at cr
    clear cM hb1 HR hc
    go_wp2_with (go_at_call 18; refine Stop.mk ?_)
    refine Stop.out (cr.mono ?_)
    rintro e W2 ⟨rfl, hb2⟩
    have hf := field1 W2 B true
    have HB2 : Hid (Below w.heap.size w W2) := HB1.out.trans (hb2.mono HB1.out.size)
    clear hb2 HB1 cr
    go_wp2_with (go_at_call 20; refine Stop.mk ?_)
    refine Stop.out ((cS W2).mono ?_)
    rintro e W3 ⟨rfl, hw3⟩
    have hb3 : Below W2.heap.size W2 W3 := hw3 ▸ (Below.refl _ _).alloc (Nat.le_refl _) _
    have HB3 : Hid (Below w.heap.size w W3) := HB2.out.trans (hb3.mono HB2.out.size)
    have cc := contains35 W3 W2.heap.size xs.length xs (by omega) (cells_of hw3) (fun _ => true) (fun W' _ u _ => clos35 W' u)
    rw [hany.out] at cc
    clear hb3 cS hw3 HB2
    generalize xs.length = n at *
    go_wp2_with (go_at_call 19; refine Stop.mk ?_)
    refine Stop.out (cc.mono ?_)
    rintro e W4 ⟨rfl, hb4⟩
    have HB4 : Hid (Below w.heap.size w W4) := HB3.out.trans (hb4.mono HB3.out.size)
    clear hb4 cc HB3
    go_wp2
    refine bodyPost_ret (v := .tuple #[.bool true, .nilIface]) (by simp [results, Tryz.results6, go_sem]) rfl ⟨rfl, HB4.out⟩
  | false =>
    rw [hc] at cr
    clear cM hb1 HR hc cS hany
    go_wp2_with (go_at_call 18; refine Stop.mk ?_)
    refine Stop.out (cr.mono ?_)
    rintro e W2 ⟨rfl, hb2⟩
    have hf := field1 W2 B false
    have HB2 : Hid (Below w.heap.size w W2) := HB1.out.trans (hb2.mono HB1.out.size)
    have c35 := clos35 W2 v
    clear hb2 HB1 cr
    go_wp2_with (go_at_call 35; refine Stop.mk ?_)
    refine Stop.out (c35.mono ?_)
    rintro e W3 ⟨rfl, hb3⟩
    have HB3 : Hid (Below w.heap.size w W3) := HB2.out.trans (hb3.mono HB2.out.size)
    clear hb3 c35 HB2
    go_wp2
    refine bodyPost_ret (v := .tuple #[.bool true, .nilIface]) (by simp [results, Tryz.results6, go_sem]) rfl ⟨rfl, HB3.out⟩

/-- A key that is a pattern. -/
theorem matcher_pat (w : World) (vr : Int) (hv : rB vr = 3) (key : ByteArray) (hk0 : key.size ≠ 0) (hR : Rt w) : Calls Tryz.prog 17 #[.int .i64 vr, .string key] w fun e w' => ∃ p, e = .returned (.tuple #[.func (.func 38) #[] #[ptr p], .nilIface]) ∧ w'.cell? ⟨p, 0, none⟩ = some (.string key) ∧ Below w.heap.size w w' := by
  obtain ⟨W0, hW0⟩ : ∃ W0, w.alloc (.cells #[.string key] 9) = W0 := ⟨_, rfl⟩
  have hb0 : Below w.heap.size w W0 := hW0 ▸ (Below.refl _ _).alloc (Nat.le_refl _) _
  have c0 : W0.cell? ⟨w.heap.size, 0, none⟩ = some (.string key) := by rw [← hW0]; simp
  have cR := ruleOf_any W0 vr (hR.on hb0)
  rw [hv] at cR
  have HB : Hid (Below w.heap.size w W0) := hb0
  have hke := text_some hk0
  clear hR hb0 hk0 hv
  go_enter Tryz.func17, Tryz.ntmps17
  go_wp2_with (go_at_call 18; refine Stop.mk ?_)
  refine Stop.out (cR.mono ?_)
  rintro e W1 ⟨rfl, hb⟩
  have hf := field0 W1 3 (rC vr)
  have c1 : Hid (W1.cell? ⟨w.heap.size, 0, none⟩ = some (.string key)) := (hb.cell (cell_lt c0)).trans c0
  have HB1 : Hid (Below w.heap.size w W1) := HB.out.trans (hb.mono HB.out.size)
  clear cR hb HB c0 hW0
  go_wp2
  refine bodyPost_ret (v := .tuple #[.func (.func 38) #[] #[ptr w.heap.size], .nilIface]) (by simp [results, Tryz.results17, go_sem, ptr]) rfl ⟨_, rfl, c1.out, HB1.out⟩

set_option maxRecDepth 100000 in
set_option maxHeartbeats 2000000 in
theorem match_pat (w : World) (vr : Int) (hv : rB vr = 3) (hv2 : rC vr = true) (key v : ByteArray) (hk : key.size ≤ 2097152) (hk0 : key.size ≠ 0) (hvs : v.size ≤ 2097152) (hR : Rt w) : Calls Tryz.prog 6 #[.int .i64 vr, .string key, .string v] w fun e w' => e = .returned (.tuple #[.bool ((Sp.spB v).any (fits key)), .nilIface]) ∧ Below w.heap.size w w' := by
  have cM := matcher_pat w vr hv key hk0 hR
  have cR := fun W h => ruleOf_any W vr h
  rw [hv2] at cR
  have cS := fun W => Sp.str_split v W (by omega)
  have hlen := Sp.spB_len v
  have hsz := spB_size v
  have cC := fun W p (h : W.cell? ⟨p, 0, none⟩ = some (.string key)) u (hu : u ∈ Sp.spB v) => clos38 W p key u h hk (by have := hsz u hu; omega)
  generalize Sp.spB v = xs at *
  obtain ⟨Z, hZ⟩ : ∃ Z, xs.any (fits key) = Z := ⟨_, rfl⟩
  have HZ : Hid (xs.any (fits key) = Z) := hZ
  rw [hZ]
  clear hZ
  have HR : Hid (Rt w) := hR
  have HC : Hid _ := cC
  clear hR hsz hk hk0 cC hv hv2
  go_enter Tryz.func6, Tryz.ntmps6
  go_wp2_with (go_at_call 17; refine Stop.mk ?_)
  refine Stop.out (cM.mono ?_)
  rintro e W1 ⟨p, rfl, hp, hb1⟩
  have HB1 : Hid (Below w.heap.size w W1) := hb1
  have HK : Hid (W1.cell? ⟨p, 0, none⟩ = some (.string key)) := hp
  have cr := cR W1 (HR.out.on hb1)
  clear hb1 cM cR HR hp
  unfold ptr
  go_wp2_with (go_at_call 18; refine Stop.mk ?_)
  refine Stop.out (cr.mono ?_)
  rintro e W2 ⟨rfl, hb2⟩
  have hf := field1 W2 (rB vr) true
  have HB2 : Hid (Below w.heap.size w W2) := HB1.out.trans (hb2.mono HB1.out.size)
  have HK2 : Hid (W2.cell? ⟨p, 0, none⟩ = some (.string key)) := (hb2.cell (cell_lt HK.out)).trans HK.out
  clear HB1 HK hb2 cr
  go_wp2_with (go_at_call 20; refine Stop.mk ?_)
  refine Stop.out ((cS W2).mono ?_)
  rintro e W3 ⟨rfl, hw3⟩
  have hb3 : Below W2.heap.size W2 W3 := hw3 ▸ (Below.refl _ _).alloc (Nat.le_refl _) _
  have HK3 : Hid (W3.cell? ⟨p, 0, none⟩ = some (.string key)) := (hb3.cell (cell_lt HK2.out)).trans HK2.out
  have HB3 : Hid (Below w.heap.size w W3) := HB2.out.trans (hb3.mono HB2.out.size)
  have cc := contains38 W3 W2.heap.size xs.length xs (by omega) (cells_of hw3) p (fits key) (fun W' hb u hu => HC.out W' p ((hb.cell (cell_lt HK3.out)).trans HK3.out) u hu)
  unfold ptr at cc
  rw [HZ.out] at cc
  clear HK2 HB2 hb3 cS hw3 HK3 HC
  generalize xs.length = n at *
  go_wp2_with (go_at_call 19; refine Stop.mk ?_)
  refine Stop.out (cc.mono ?_)
  rintro e W4 ⟨rfl, hb4⟩
  have HB4 : Hid (Below w.heap.size w W4) := HB3.out.trans (hb4.mono HB3.out.size)
  clear hb4 cc HB3
  go_wp2
  refine bodyPost_ret (v := .tuple #[.bool Z, .nilIface]) (by simp [results, Tryz.results6, go_sem]) rfl ⟨rfl, HB4.out⟩
end Go.Proofs.YtehgeninocbpeaaGreatDoor.Tm
