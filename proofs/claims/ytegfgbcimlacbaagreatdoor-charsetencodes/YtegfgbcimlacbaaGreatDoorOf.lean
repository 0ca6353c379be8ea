
import Derived.Test.YtegfgbcimlacbaaGreatDoorOe
import Derived.Test.YtegfgbcimlacbaaGreatDoorOg
/-
  DERIVED. Has, by the program and by the document.
-/
namespace Go.Proofs.YtegfgbcimlacbaaGreatDoor
open Go Go.Proofs Go.RowKit Go.Maps

def asc (r : Int) : Bool := decide (32 ≤ r) && decide (r ≤ 126)
def wid (r : Int) : Bool := decide (160 ≤ r) && decide (r ≤ 1114111) && !(decide (55296 ≤ r) && decide (r ≤ 57343))

set_option maxRecDepth 100000 in
theorem ascii_any (w : World) (r : Int) : Calls Tryz.prog 47 #[.int .i32 r] w fun e w' => e = .returned (.bool (asc r)) ∧ w = w' := by
  unfold asc
  by_cases h1 : 32 ≤ r
  · have d1 : decide (32 ≤ r) = true := by simpa using h1
    go_enter Tryz.func47, Tryz.ntmps47
    go_wp2
    go_ret
    exact ⟨by rw [d1]; rfl, rfl⟩
  · have d1 : decide (32 ≤ r) = false := by simpa using h1
    go_enter Tryz.func47, Tryz.ntmps47
    go_wp2
    go_ret
    exact ⟨rfl, rfl⟩

theorem wide_cases (r : Int) : (wid r = true ∧ 160 ≤ r ∧ r ≤ 1114111 ∧ (r < 55296 ∨ 57343 < r)) ∨ (wid r = false ∧ (r < 160 ∨ (160 ≤ r ∧ 1114111 < r) ∨ (160 ≤ r ∧ r ≤ 1114111 ∧ 55296 ≤ r ∧ r ≤ 57343))) := by
  cases h : wid r with
  | true =>
    unfold wid at h
    simp only [Bool.and_eq_true, decide_eq_true_eq, Bool.not_eq_true', Bool.and_eq_false_iff, decide_eq_false_iff_not] at h
    exact .inl ⟨rfl, h.1.1, h.1.2, by omega⟩
  | false =>
    refine .inr ⟨rfl, ?_⟩
    unfold wid at h
    simp only [Bool.and_eq_false_iff, decide_eq_false_iff_not, Bool.not_eq_false', Bool.and_eq_true, decide_eq_true_eq] at h
    omega

set_option maxRecDepth 100000 in
theorem valid_any (w : World) (r : Int) (h : 160 ≤ r) : Calls Tryz.prog 64 #[.int .i32 r] w fun e w' => e = .returned (.bool (wid r)) ∧ w = w' := by
  rcases wide_cases r with ⟨hw, h1, h2, h3 | h3⟩ | ⟨hw, h3 | ⟨_, h3⟩ | ⟨_, h3, h4, h5⟩⟩
  · rw [hw]
    clear hw
    go_enter Tryz.func64, Tryz.ntmps64
    go_wp2
    go_ret
    exact ⟨rfl, rfl⟩
  · rw [hw]
    clear hw
    go_enter Tryz.func64, Tryz.ntmps64
    go_wp2
    go_ret
    exact ⟨rfl, rfl⟩
  · omega
  · rw [hw]
    clear hw
    go_enter Tryz.func64, Tryz.ntmps64
    go_wp2
    go_ret
    exact ⟨rfl, rfl⟩
  · rw [hw]
    clear hw
    go_enter Tryz.func64, Tryz.ntmps64
    go_wp2
    go_ret
    exact ⟨rfl, rfl⟩

set_option maxRecDepth 100000 in
theorem isWide_any (w : World) (r : Int) : Calls Tryz.prog 50 #[.int .i32 r] w fun e w' => e = .returned (.bool (wid r)) ∧ w = w' := by
  by_cases h : 160 ≤ r
  · have c := valid_any w r h
    generalize wid r = b at c ⊢
    go_enter Tryz.func50, Tryz.ntmps50
    go_wp2_with (go_at_call 64; refine c.mono ?_; rintro e w' ⟨rfl, rfl⟩)
    go_ret
    exact ⟨rfl, rfl⟩
  · have hw : wid r = false := by unfold wid; simp [h]
    rw [hw]
    go_enter Tryz.func50, Tryz.ntmps50
    go_wp2
    go_ret
    exact ⟨rfl, rfl⟩

set_option maxRecDepth 100000 in
theorem rwide_any (w : World) (r : Int) : Calls Tryz.prog 40 #[.int .i32 r] w fun e w' => e = .returned (.bool (wid r)) ∧ w = w' := by
  rcases wide_cases r with ⟨hw, h1, h2, h3 | h3⟩ | ⟨hw, h3 | ⟨h4, h3⟩ | ⟨h6, h3, h4, h5⟩⟩
  all_goals rw [hw]
  all_goals clear hw
  all_goals go_enter Tryz.func40, Tryz.ntmps40
  all_goals go_wp2
  all_goals go_ret
  all_goals first | exact ⟨rfl, rfl⟩ | exact ⟨by simp; omega, rfl⟩

set_option maxRecDepth 100000 in
theorem univ_any (w : World) (q : Nat) (v : Value) (a : Row) (R : List Row) (x : Bool) (h : SetIn w q v (a :: R) x) : Calls Tryz.prog 49 #[.pointer (some ⟨q, 0, none⟩)] w fun e w' => e = .returned (.bool (a.1 == 6)) ∧ w = w' := by
  obtain ⟨ao, cap, rfl⟩ := h.val
  have h0 := h.c0
  obtain ⟨g, rfl, -, r0, -⟩ := h.row 0 a rfl
  simp only [List.length_cons] at h0
  rw [Nat.zero_mul] at r0
  have hb : ((a.1 : Int) == 6) = (a.1 == 6) := by
    cases hx : (a.1 == 6) with
    | true => simp at hx; rw [hx]; rfl
    | false => simp at hx; simp; omega
  have hl : (0 : Int) < ((R.length : Int) + 1) := by omega
  generalize R.length = n at h0 hl
  generalize a.1 = m at r0 hb ⊢
  generalize (m == 6) = y at hb ⊢
  clear h
  go_enter Tryz.func49, Tryz.ntmps49
  go_wp2
  go_ret
  exact ⟨rfl, rfl⟩

theorem madeIn (w : World) (q : Nat) (v : Value) (a : Row) (R : List Row) (x : Bool) (h : SetIn w q v (a :: R) x) : Calls Tryz.prog 32 #[.pointer (some ⟨q, 0, none⟩)] w fun e w' => e = .returned (.bool true) ∧ w = w' := by
  obtain ⟨ao, cap, rfl⟩ := h.val
  have h0 := h.c0
  simp only [List.length_cons] at h0
  generalize R.length = n at h0
  clear h
  go_enter Tryz.func32, Tryz.ntmps32
  go_wp2
  go_ret
  exact ⟨rfl, rfl⟩

/-- Whether a rune can be written. -/
def hasS (a : Row) (R : List Row) (r : Int) : Bool := asc r || (if a.1 == 6 then wid r else !(firstB r (a :: R) == 0))

set_option maxRecDepth 100000 in
set_option maxHeartbeats 1000000 in
theorem has_all (w : World) (q : Nat) (v : Value) (a : Row) (R : List Row) (x : Bool) (r : Int) (hr0 : -2147483648 ≤ r) (hr1 : r < 2147483648) (h : SetIn w q v (a :: R) x) (hR6 : (a :: R).length ≤ 6) (hk7 : ∀ b ∈ a :: R, b.1 < 7) (hT : Tabs w) (hq : 5 < q) :
    Calls Tryz.prog 35 #[.pointer (some ⟨q, 0, none⟩), .int .i32 r] w fun e w' => e = .returned (.bool (hasS a R r)) ∧ SetIn w' q v (a :: R) x ∧ Keep (a :: R) w w' := by
  have c25 := madeIn w q v a R x h
  have c36 := ascii_any w r
  have c37 := univ_any w q v a R x h
  have c38 := isWide_any w r
  have c39 := first_any w q v (a :: R) x r hr0 hr1 h hR6 hk7 hT hq
  have HS : Hid (SetIn w q v (a :: R) x) := h
  have HK : Hid (Keep (a :: R) w w) := Keep.refl _ _
  have HKb : Hid (∀ W W', SetIn W q v (a :: R) x → Below W.heap.size W W' → SetIn W' q v (a :: R) x ∧ Keep (a :: R) W W') := fun W W' h hb => ⟨h.on hb, Keep.of_below hb⟩
  unfold hasS
  generalize asc r = b1 at c36 ⊢
  generalize wid r = b2 at c38 ⊢
  generalize (a.1 == 6) = b3 at c37 ⊢
  generalize firstB r (a :: R) = F at c39 ⊢
  clear h hT hk7
  cases b1 with
  | true =>
    go_enter Tryz.func35, Tryz.ntmps35
    go_wp2_with (first | (go_at_call 32; refine c25.mono ?_; rintro e W ⟨rfl, rfl⟩) | (go_at_call 47; refine c36.mono ?_; rintro e W ⟨rfl, rfl⟩))
    all_goals go_ret
    all_goals exact ⟨rfl, HS.out, HK.out⟩
  | false =>
    cases b3 with
    | true =>
      go_enter Tryz.func35, Tryz.ntmps35
      go_wp2_with (first | (go_at_call 32; refine c25.mono ?_; rintro e W ⟨rfl, rfl⟩) | (go_at_call 47; refine c36.mono ?_; rintro e W ⟨rfl, rfl⟩) | (go_at_call 49; refine c37.mono ?_; rintro e W ⟨rfl, rfl⟩) | (go_at_call 50; refine c38.mono ?_; rintro e W ⟨rfl, rfl⟩))
      all_goals go_ret
      all_goals exact ⟨rfl, HS.out, HK.out⟩
    | false =>
      go_enter Tryz.func35, Tryz.ntmps35
      go_wp2_with (first | (go_at_call 32; refine c25.mono ?_; rintro e W ⟨rfl, rfl⟩) | (go_at_call 47; refine c36.mono ?_; rintro e W ⟨rfl, rfl⟩) | (go_at_call 49; refine c37.mono ?_; rintro e W ⟨rfl, rfl⟩) | (go_at_call 51; fail))
      refine c39.mono ?_
      rintro e W1 ⟨av, rfl, hfv, hs1, hk1⟩
      have HS1 : Hid (SetIn W1 q v (a :: R) x) := hs1
      have HK1 : Hid (Keep (a :: R) w W1) := hk1
      have hF : ((F : Int) != 0) = !(F == 0) := by
        by_cases h : F = 0
        · subst h; rfl
        · have h2 : (F == 0) = false := by simpa using h
          rw [h2]
          simp
          omega
      clear hs1 hk1 c25 c36 c37 c38 c39
      rcases hfv with ⟨z, s1, s2, j, P, rfl⟩ | rfl
      · obtain ⟨W2, hW2⟩ : ∃ W2, W1.alloc (.cells #[.int .i64 z, .string s1, .string s2, .func (.func j) #[] #[], .func (.func 75) #[] P] 82) = W2 := ⟨_, rfl⟩
        have hb2 : Below W1.heap.size W1 W2 := hW2 ▸ (Below.refl _ _).alloc (Nat.le_refl _) _
        have hfin := HKb.out W1 W2 HS1.out hb2
        have HFI : Hid (SetIn W2 q v (a :: R) x ∧ Keep (a :: R) w W2) := ⟨hfin.1, HK1.out.trans hfin.2⟩
        clear hfin hb2
        go_wp2
        all_goals go_ret
        all_goals exact ⟨rfl, HFI.out⟩
      · obtain ⟨W2, hW2⟩ : ∃ W2, W1.alloc (.cells #[.int .i64 0, .string ⟨#[]⟩, .string ⟨#[]⟩, .nilFunc, .nilFunc] 82) = W2 := ⟨_, rfl⟩
        have hb2 : Below W1.heap.size W1 W2 := hW2 ▸ (Below.refl _ _).alloc (Nat.le_refl _) _
        have f0 : W2.cell? ⟨W1.heap.size, 0, none⟩ = some (.int .i64 0) := by rw [← hW2]; simp
        have f1 : W2.cell? ⟨W1.heap.size, 1, none⟩ = some (.string ⟨#[]⟩) := by rw [← hW2]; simp
        have f2 : W2.cell? ⟨W1.heap.size, 2, none⟩ = some (.string ⟨#[]⟩) := by rw [← hW2]; simp
        have f3 : W2.cell? ⟨W1.heap.size, 3, none⟩ = some .nilFunc := by rw [← hW2]; simp
        have f4 : W2.cell? ⟨W1.heap.size, 4, none⟩ = some .nilFunc := by rw [← hW2]; simp
        have ff : ∀ i, W2.frozen? ⟨W1.heap.size, i, none⟩ = false := fun i => by rw [← hW2]; simp
        obtain ⟨U, hU⟩ : ∃ U, ((((W2.setCell ⟨W1.heap.size, 0, none⟩ (.int .i64 0)).setCell ⟨W1.heap.size, 1, none⟩ (.string ⟨#[]⟩)).setCell ⟨W1.heap.size, 2, none⟩ (.string ⟨#[]⟩)).setCell ⟨W1.heap.size, 3, none⟩ .nilFunc).setCell ⟨W1.heap.size, 4, none⟩ .nilFunc = U := ⟨_, rfl⟩
        have hbU : Below W1.heap.size W1 U := by
          rw [← hU]
          exact ((((hb2.setCell (p := ⟨W1.heap.size, 0, none⟩) (Nat.le_refl _) _).setCell (p := ⟨W1.heap.size, 1, none⟩) (Nat.le_refl _) _).setCell (p := ⟨W1.heap.size, 2, none⟩) (Nat.le_refl _) _).setCell (p := ⟨W1.heap.size, 3, none⟩) (Nat.le_refl _) _).setCell (p := ⟨W1.heap.size, 4, none⟩) (Nat.le_refl _) _
        have hfin := HKb.out W1 U HS1.out hbU
        have HFI : Hid (SetIn U q v (a :: R) x ∧ Keep (a :: R) w U) := ⟨hfin.1, HK1.out.trans hfin.2⟩
        clear hfin hb2 hbU
        go_wp2
        all_goals go_ret
        all_goals exact ⟨rfl, HFI.out⟩

theorem repN_six : ∀ a : Fin 7, ((repN a.val : Int) == 192) = (a.val == 6) := by decide

/-- Whether a rune can be written, for the document. -/
def hitR (r : Int) (a : Nat × ByteArray) : Bool := (a.1 == 6 && wid r) || (decide (160 ≤ r) && !(writesN a.1 r == 0))
def rhasS (N : List (Nat × ByteArray)) (r : Int) : Bool := asc r || N.any (hitR r)

set_option maxRecDepth 100000 in
set_option maxHeartbeats 1000000 in
theorem rhas_all (w : World) (H p : Nat) (v : Value) (N : List (Nat × ByteArray)) (x : Bool) (r : Int) (h : RSetAt w H p v N x) (hR6 : N.length ≤ 6) (hk7 : ∀ b ∈ N, b.1 < 7) (hT : RTabs w) :
    Calls Tryz.prog 19 #[.pointer (some ⟨p, 0, none⟩), .int .i32 r] w fun e w' => e = .returned (.bool (rhasS N r)) ∧ w = w' := by
  obtain ⟨F, hF⟩ : ∃ F, rhasS N r = F := ⟨_, rfl⟩
  have HF : Hid (rhasS N r = F) := hF
  rw [hF]
  obtain ⟨ao, cap, rfl⟩ := h.val
  obtain ⟨n, hn⟩ : ∃ n, N.length = n := ⟨_, rfl⟩
  have HN : Hid (N.length = n) := hn
  rw [hn] at h hR6
  have h0 := h.c0
  have HS : Hid (RSetAt w H p (.slice ao n cap) N x) := h
  have HW : Hid (∀ b ∈ N, Calls Tryz.prog 22 #[.int .i64 (repN b.1 : Nat), .int .i32 r] w fun e w' => e = .returned (.int .u8 (writesN b.1 r : Nat)) ∧ w = w') := fun b hb => writes_any w b.1 (hk7 b hb) r hT
  have HK7 : Hid (∀ b ∈ N, b.1 < 7) := hk7
  have c40 := rwide_any w r
  clear hF hn h hk7 hT
  by_cases ha : 32 ≤ r ∧ r ≤ 126
  · obtain ⟨a1, a2⟩ := ha
    have hF : F = true := by rw [← HF.out]; unfold rhasS asc; simp [a1, a2]
    subst hF
    go_enter Tryz.func19, Tryz.ntmps19
    go_wp2
    go_ret
    exact ⟨rfl, rfl⟩
  · have hF : F = N.any (hitR r) := by
      rw [← HF.out]
      unfold rhasS asc
      have : (decide (32 ≤ r) && decide (r ≤ 126)) = false := by simp; omega
      rw [this, Bool.false_or]
    have HFF : Hid (F = N.any (hitR r)) := hF
    have hasc : r < 32 ∨ (32 ≤ r ∧ 126 < r) := by omega
    clear hF ha HF
    rcases hasc with hs | ⟨hs1, hs2⟩
    all_goals go_enter Tryz.func19, Tryz.ntmps19
    all_goals go_wp2
    all_goals (
      go_loop [5] (fun y => ∃ k : Nat, y = .int .i64 (k : Int) ∧ k ≤ n ∧ Hid (∀ a ∈ N.take k, hitR r a = false)) (fun y => n - (intOf y).toNat)
      case atStart => exact ⟨0, rfl, by omega, by intro a ha; simp at ha⟩
      case round =>
        obtain ⟨k, rfl, hk, HNo⟩ := hrel
        by_cases hkn : k < n
        · have hkN : k < N.length := by rw [HN.out]; exact hkn
          obtain ⟨a, ha⟩ : ∃ a, N[k]? = some a := ⟨N[k], List.getElem?_eq_getElem hkN⟩
          obtain ⟨g, rfl, -, hc⟩ := HS.out.cell k a ha
          have hmem := List.mem_of_getElem? ha
          have c41 := HW.out a hmem
          have h6 := repN_six ⟨a.1, HK7.out a hmem⟩
          simp only at h6
          have HTk : Hid (N.take (k + 1) = N.take k ++ [a]) := by show _ = _; rw [List.take_add_one, ha]; rfl
          have HAny : Hid (hitR r a = true → F = true) := fun h => by
            rw [HFF.out, List.any_eq_true]
            exact ⟨a, hmem, h⟩
          have HNx : Hid (hitR r a = false → ∀ b ∈ N.take (k + 1), hitR r b = false) := fun h b hb => by
            rw [HTk.out, List.mem_append, List.mem_singleton] at hb
            rcases hb with hb | rfl
            · exact HNo.out b hb
            · exact h
          have hki : (k : Int) < (n : Int) := by omega
          have hwz : ((writesN a.1 r : Int) != 0) = !(writesN a.1 r == 0) := by
            by_cases h : writesN a.1 r = 0
            · rw [h]; rfl
            · have h2 : (writesN a.1 r == 0) = false := by simpa using h
              rw [h2]
              simp
              omega
          have hH : hitR r a = ((a.1 == 6 && wid r) || (decide (160 ≤ r) && !(writesN a.1 r == 0))) := rfl
          generalize repN a.1 = ρ at hc c41 h6
          generalize (a.1 == 6) = b6 at h6 hH
          generalize writesN a.1 r = wz at c41 hH hwz
          generalize (wz == 0) = b0 at hwz hH
          generalize wid r = bw at c40 hH
          clear ha hmem hkN
          by_cases h160 : 160 ≤ r
          · have d160 : decide (160 ≤ r) = true := by simpa using h160
            rw [d160] at hH
            cases b6 <;> cases bw <;> cases b0
            all_goals first
              | (exfalso; omega)
              | (have hF : F = true := HAny.out (hH.trans rfl)
                 subst hF
                 clear HAny HNx hH
                 go_wp2_with (first | (go_at_call 40; refine c40.mono ?_; rintro e W ⟨rfl, rfl⟩) | (go_at_call 22; refine c41.mono ?_; rintro e W ⟨rfl, rfl⟩))
                 go_ret
                 exact ⟨rfl, rfl⟩)
              | (have HN2 : Hid (∀ b ∈ N.take (k + 1), hitR r b = false) := HNx.out (hH.trans rfl)
                 clear HAny HNx hH
                 go_wp2_with (first | (go_at_call 40; refine c40.mono ?_; rintro e W ⟨rfl, rfl⟩) | (go_at_call 22; refine c41.mono ?_; rintro e W ⟨rfl, rfl⟩))
                 exact ⟨⟨k + 1, by simp, by omega, HN2⟩, by simp [intOf]; omega⟩)
          · have d160 : decide (160 ≤ r) = false := by simpa using h160
            rw [d160] at hH
            cases b6 <;> cases bw
            all_goals first
              | (have hF : F = true := HAny.out (hH.trans rfl)
                 subst hF
                 clear HAny HNx hH
                 go_wp2_with (first | (go_at_call 40; refine c40.mono ?_; rintro e W ⟨rfl, rfl⟩) | fail)
                 go_ret
                 exact ⟨rfl, rfl⟩)
              | (have HN2 : Hid (∀ b ∈ N.take (k + 1), hitR r b = false) := HNx.out (hH.trans rfl)
                 clear HAny HNx hH
                 go_wp2_with (first | (go_at_call 40; refine c40.mono ?_; rintro e W ⟨rfl, rfl⟩) | fail)
                 exact ⟨⟨k + 1, by simp, by omega, HN2⟩, by simp [intOf]; omega⟩)
        · obtain rfl : k = n := by omega
          have hF : F = false := by
            rw [HFF.out, List.any_eq_false]
            intro a ha
            have := HNo.out a (by rw [← HN.out, List.take_length]; exact ha)
            rw [this]
            decide
          subst hF
          go_wp2
          go_ret
          exact ⟨rfl, rfl⟩)
end Go.Proofs.YtegfgbcimlacbaaGreatDoor
