import Derived.Test.YtngmleddlfkecaaDoorFh
namespace Go.Proofs.YtngmleddlfkecaaDoor
open Go Go.Proofs Go.RowKit

theorem any_yes (w : World) (a : Option Addr) (n p : Nat) (c : Int) (hc : (c != 0) = true) :
    Calls Tryd.prog 39 #[.agg #[.slice a n p, .int .i64 c]] w fun e w' => e = .returned (.bool true) ∧ Below w.heap.size w w' := by
  go_enter Tryd.func39, Tryd.ntmps39
  go_wp2
  go_ret
  exact ⟨rfl, (Below.refl _ _).alloc (Nat.le_refl _) _⟩

theorem any_no (w : World) :
    Calls Tryd.prog 39 #[.agg #[.slice none 0 0, .int .i64 0]] w fun e w' => e = .returned (.bool false) ∧ Below w.heap.size w w' := by
  go_enter Tryd.func39, Tryd.ntmps39
  go_wp2
  go_ret
  exact ⟨rfl, (Below.refl _ _).alloc (Nat.le_refl _) _⟩

theorem own_head {w : World} {B g p : Nat} {n : Nat} {l : List Nat} (h : Own w B (.slice (some ⟨g, 0, none⟩) n p) l) (hp : 0 < l.length) : w.cell? ⟨g, 0, none⟩ = some (.int .u8 (l.getD 0 0 : Nat)) := by
  obtain ⟨a, q, he⟩ := h.shape
  simp only [Value.slice.injEq] at he
  obtain ⟨_, rfl, _⟩ := he
  rw [h.1.cellAt (g := g) (cap := p) 0 (by omega), u8s_get l 0 hp]

/-- Rows that begin otherwise are other rows. -/
theorem own_keep {w w' : World} {B : Nat} {v1 v2 : Value} {l1 l2 : List Nat} (h1 : Own w B v1 l1) (h2 : Own w B v2 l2) (hd : l1.getD 0 0 ≠ l2.getD 0 0) (hp1 : 0 < l1.length) (hp2 : 0 < l2.length) (hg : w.grownBy w' v1.ownBlock) : Own w' B v2 l2 := by
  refine ⟨h2.1.kept hg ?_, h2.2⟩
  obtain ⟨a1, p1, rfl⟩ := h1.shape
  obtain ⟨a2, p2, rfl⟩ := h2.shape
  rcases h2.1.2 with ⟨he, _⟩ | ⟨g2, c2, _, he2, _⟩
  · rw [he]; exact .inl rfl
  · simp only [Value.slice.injEq] at he2
    obtain ⟨rfl, _⟩ := he2
    rcases h1.1.2 with ⟨he, _⟩ | ⟨g1, c1, _, he1, _⟩
    · rw [he]; exact .inr (by simp [Value.ownBlock])
    · simp only [Value.slice.injEq] at he1
      obtain ⟨rfl, _⟩ := he1
      refine .inr ?_
      simp only [Value.ownBlock]
      intro he
      simp only [Option.some.injEq] at he
      subst he
      have e1 := own_head h1 hp1
      have e2 := own_head h2 hp2
      rw [e1] at e2
      simp at e2
      exact hd (by rw [List.getD_eq_getElem?_getD, List.getD_eq_getElem?_getD]; omega)

theorem RE.code {w : World} {fa : Option Addr} {fn fc : Nat} {c : Int} {o : Option (Int × Int)} (h : RE w (.agg #[.slice fa fn fc, .int .i64 c]) o) (ho : ∀ a c, o = some (a, c) → (c != 0) = true) : (c != 0) = o.isSome := by
  cases o with
  | none =>
    have h2 : Value.agg #[.slice fa fn fc, .int .i64 c] = .agg #[.slice none 0 0, .int .i64 0] := h
    simp at h2
    simp [h2.2]
  | some x =>
    obtain ⟨g, cp, he, _⟩ := h
    simp at he
    have := ho x.1 x.2 rfl
    rw [he.2]
    simpa using this

theorem Own.addr {w : World} {B : Nat} {v : Value} {l : List Nat} (h : Own w B v l) (hp : 0 < l.length) : ∃ g p, v = .slice (some ⟨g, 0, none⟩) l.length p := by
  rcases h.1.2 with ⟨_, h0⟩ | ⟨g, cap, cur, rfl, _⟩
  · omega
  · exact ⟨g, cap, rfl⟩

theorem Own.get {w : World} {B g p n : Nat} {l : List Nat} (h : Own w B (.slice (some ⟨g, 0, none⟩) n p) l) (hn : l.length = n) (k : Nat) (hk : k < n) : w.cell? ⟨g, k, none⟩ = some (.int .u8 (l.getD k 0 : Nat)) := by
  subst hn
  rw [h.1.cellAt (g := g) (cap := p) k (by omega), u8s_get l k hk]

theorem hd0_head (gen n S : Nat) : (hd0 gen n S).getD 0 0 = 77 := by simp [hd0]
theorem frameL_head (n : Nat) (body : List Nat) : (frameL n body).getD 0 0 = 165 := by simp [frameL, leadL]

theorem take_get {l : List Nat} {j : Nat} (hj : j < l.length) : l.take (j + 1) = l.take j ++ [l.getD j 0] := by
  rw [List.take_add_one, List.getD_eq_getElem?_getD, List.getElem?_eq_getElem hj]; rfl

theorem Own.snoc {w : World} {B r : Nat} {v : Value} {l : List Nat} {y : Nat} (hl : l.length = r) (h : w.ownsRow B 5 1 v (r + 1) (u8s l ++ [.int .u8 (y : Int)])) (hb : ∀ x ∈ l, x < 256) (hy : y < 256) : Own w B v (l ++ [y]) := by
  refine ⟨?_, ?_⟩
  · rw [u8s_append, List.length_append, hl]; exact h
  · intro x hx
    rcases List.mem_append.1 hx with hx | hx
    · exact hb x hx
    · simp at hx; omega

set_option maxRecDepth 100000 in
set_option maxHeartbeats 2000000 in
/-- The document's Head. -/
theorem rhead_any {w : World} {v : Value} {bss : List (List Nat)} (h : VS w v bss) (gen : Nat) (hg : gen < 18446744073709551616) (hF : Few bss) :
    Calls Tryd.prog 22 #[.int .u64 (gen : Int), v] w fun e w' => ∃ v' vf, e = .returned (.tuple #[v', vf]) ∧ Own w' (w.heap.size + 1) v' (headO gen bss) ∧ RE w' vf (headE gen bss) ∧ Below w.heap.size w w' := by
  obtain ⟨W1, hW1⟩ : ∃ W1, w.alloc (.cells #[.slice none 0 0, .int .i64 0] 41) = W1 := ⟨_, rfl⟩
  have hb1 : Below w.heap.size w W1 := hW1 ▸ (Below.refl _ _).alloc (Nat.le_refl _) _
  have HF1 : Hid (Fc W1 w.heap.size) := by
    rw [← hW1]
    exact ⟨by simp, by simp, fun i => by simp⟩
  have hs1 : W1.heap.size = w.heap.size + 1 := by rw [← hW1]; simp
  obtain ⟨ao, cp, hv, _⟩ := h
  have h : VS w v bss := ⟨ao, cp, hv, by assumption⟩
  have HVS : Hid (VS W1 (.slice ao bss.length cp) bss) := by rw [← hv]; exact h.next hb1
  subst hv
  unfold headO headE
  by_cases hg0 : gen = 0
  · rw [if_pos hg0]
    subst hg0
    clear h
    go_enter Tryd.func22, Tryd.ntmps22
    go_wp2_with (go_at_call 33; fail)
    refine (refNo_any _ _ _).mono ?_
    rintro e W2 ⟨g, rfl, hb2, q0, q1, hgg, hg2⟩
    obtain ⟨f0, f1, ff⟩ := HF1.out.next hb2 (by omega)
    go_wp2
    obtain ⟨u0, u1⟩ := Fc.sets ⟨f0, f1, ff⟩ (.slice (some ⟨g, 0, none⟩) 1 1) (.int .i64 41)
    have hne : w.heap.size ≠ g := by omega
    exact bodyPost_ret (v := .tuple #[.slice none 0 0, .agg #[.slice (some ⟨g, 0, none⟩) 1 1, .int .i64 41]]) (by simp only [results, Tryd.results22]; simp [go_sem, u0, u1]) rfl ⟨_, _, rfl, Own.nil _ _, ⟨g, 1, rfl, (cell_set_off hne).trans ((cell_set_off hne).trans q0), (cell_set_off hne).trans ((cell_set_off hne).trans q1)⟩, ((hb1.trans (hb2.mono hb1.size)).setCell (p := ⟨w.heap.size, 0, none⟩) (Nat.le_refl _) _).setCell (p := ⟨w.heap.size, 1, none⟩) (Nat.le_refl _) _⟩
  · rw [if_neg hg0]
    have hgb : ((gen : Int) == 0) = false := by simp; omega
    have c38 := baseNo_any HVS.out
    have hcode : ∀ a c, baseE bss = some (a, c) → (c != 0) = true := fun a c hh => headE_code (gen := gen) (bss := bss) a c (by unfold headE; rw [if_neg hg0]; exact hh)
    clear h
    cases hbE : baseE bss with
    | some x =>
      rw [hbE] at c38 hcode
      clear hbE
      go_enter Tryd.func22, Tryd.ntmps22
      go_wp2_with (go_at_call 38; fail)
      refine c38.mono ?_
      rintro e W2 ⟨vf, rfl, hE, hb2⟩
      obtain ⟨fa, fn, fc, c, rfl⟩ := hE.shape
      have hc1 : (c != 0) = true := hE.code hcode
      clear c38 hcode
      go_wp2_with (go_at_call 39; fail)
      obtain ⟨p6, hp6⟩ : ∃ p, W2.heap.size = p := ⟨_, rfl⟩
      obtain ⟨W3, hW3⟩ : ∃ W3, W2.alloc (.cells #[.slice fa fn fc, .int .i64 c] 41) = W3 := ⟨_, rfl⟩
      rw [hW3]
      have hb3 : Below W2.heap.size W2 W3 := hW3 ▸ (Below.refl _ _).alloc (Nat.le_refl _) _
      have d0 : W3.cell? ⟨p6, 0, none⟩ = some (.slice fa fn fc) := by rw [← hW3, ← hp6]; simp
      have d1 : W3.cell? ⟨p6, 1, none⟩ = some (.int .i64 c) := by rw [← hW3, ← hp6]; simp
      rw [hp6]
      refine (any_yes W3 fa fn fc c hc1).mono ?_
      rintro e W4 ⟨rfl, hb4⟩
      have hb14 : Below W1.heap.size W1 W4 := (hb2.trans (hb3.mono hb2.size)).trans (hb4.mono (Nat.le_trans hb2.size hb3.size))
      obtain ⟨f0, f1, ff⟩ := HF1.out.next hb14 (by omega)
      have d0' := (hb4.cell (cell_lt d0)).trans d0
      have d1' := (hb4.cell (cell_lt d1)).trans d1
      have hE4 : RE W4 (.agg #[.slice fa fn fc, .int .i64 c]) (some x) := (hE.next hb3).next hb4
      have hgx : ∀ g, W4.cell? ⟨g, 0, none⟩ = some (.string { data := #[106, 111, 117, 114, 110, 97, 108] }) → w.heap.size ≠ g := by
        intro g hh he
        subst he
        rw [f0] at hh
        simp at hh
      clear hW3 d0 d1 hp6 hb3 hb2 hb4 hE
      go_wp2
      go_region
      all_goals
        go_wp2
        obtain ⟨u0, u1⟩ := Fc.sets (W := W4) ⟨f0, f1, ff⟩ (.slice fa fn fc) (.int .i64 c)
        refine bodyPost_ret (v := .tuple #[.slice none 0 0, .agg #[.slice fa fn fc, .int .i64 c]]) (by simp only [results, Tryd.results22]; simp [go_sem, u0, u1]) rfl ?_
        refine ⟨_, _, rfl, Own.nil _ _, ?_, ?_⟩
        · obtain ⟨q, cpp, he, q0, q1⟩ := hE4
          have hne := hgx q q0
          exact ⟨q, cpp, he, (cell_set_off hne).trans ((cell_set_off hne).trans q0), (cell_set_off hne).trans ((cell_set_off hne).trans q1)⟩
        · exact (((hb1.trans (hb14.mono hb1.size)).setCell (p := ⟨w.heap.size, 0, none⟩) (Nat.le_refl _) _).setCell (p := ⟨w.heap.size, 1, none⟩) (Nat.le_refl _) _).drew
    | none =>
      rw [hbE] at c38
      obtain ⟨h6, hsm⟩ := baseE_none hbE
      have HSm : Hid (∀ i, i < bss.length → (bss.getD i []).length ≤ 131072) := hsm
      clear hbE hcode hsm
      obtain ⟨n, hn⟩ : ∃ n, bss.length = n := ⟨_, rfl⟩
      have HN : Hid (bss.length = n) := hn
      have HFw : Hid (Few bss) := hF
      rw [hn] at h6 c38 ⊢
      rw [hn] at HVS
      obtain ⟨S, hS⟩ : ∃ S, sizeL bss = S := ⟨_, rfl⟩
      have hS4 : S ≤ 411900 := by rw [← hS]; exact hF.2
      have HS : Hid (sizeL bss = S) := hS
      have ewn := wrap_u64_small n (by omega)
      have ewS := wrap_u64_small S (by omega)
      clear hn hF hS
      go_enter Tryd.func22, Tryd.ntmps22
      go_wp2_with (go_at_call 38; fail)
      refine c38.mono ?_
      rintro e W2 ⟨vf, rfl, hE, hb2⟩
      obtain rfl : vf = .agg #[.slice none 0 0, .int .i64 0] := hE
      clear c38
      go_wp2_with (go_at_call 39; fail)
      obtain ⟨p6, hp6⟩ : ∃ p, W2.heap.size = p := ⟨_, rfl⟩
      obtain ⟨W3, hW3⟩ : ∃ W3, W2.alloc (.cells #[.slice none 0 0, .int .i64 0] 41) = W3 := ⟨_, rfl⟩
      rw [hW3]
      have hb3 : Below W2.heap.size W2 W3 := hW3 ▸ (Below.refl _ _).alloc (Nat.le_refl _) _
      have d0 : W3.cell? ⟨p6, 0, none⟩ = some (.slice none 0 0) := by rw [← hW3, ← hp6]; simp
      have d1 : W3.cell? ⟨p6, 1, none⟩ = some (.int .i64 0) := by rw [← hW3, ← hp6]; simp
      rw [hp6]
      refine (any_no W3).mono ?_
      rintro e W4 ⟨rfl, hb4⟩
      have hb14 : Below W1.heap.size W1 W4 := (hb2.trans (hb3.mono hb2.size)).trans (hb4.mono (Nat.le_trans hb2.size hb3.size))
      have HF4 : Hid (Fc W4 w.heap.size) := HF1.out.next hb14 (by omega)
      have D0 : Hid (W4.cell? ⟨p6, 0, none⟩ = some (.slice none 0 0)) := (hb4.cell (cell_lt d0)).trans d0
      have D1 : Hid (W4.cell? ⟨p6, 1, none⟩ = some (.int .i64 0)) := (hb4.cell (cell_lt d1)).trans d1
      have hB4 : w.heap.size + 1 ≤ W4.heap.size := by have := hb14.size; omega
      have HB4 : Hid (Below w.heap.size w W4) := hb1.trans (hb14.mono hb1.size)
      obtain ⟨_, _, hva, hf⟩ := HVS.out.next hb14
      simp only [Value.slice.injEq] at hva
      obtain ⟨rfl, -, rfl⟩ := hva
      have HC : Hid (0 < n → ∃ b off, ao = some ⟨b, off, none⟩ ∧ ∀ i, i < n → ∃ x, W4.cell? ⟨b, off + i, none⟩ = some x ∧ V W4 x (bss.getD i [])) := by rw [← HN.out]; exact hf
      clear hW3 d0 d1 hp6 hb3 hb2 hb4 hf HF1 HVS hb14
      go_wp2
      go_loop [7, 8] (fun s i => ∃ k t : Nat, k ≤ n ∧ i = .int .i64 k ∧ s = .int .i64 t ∧ t ≤ 411900 ∧ Hid (t = sizeL (bss.take k))) (fun _ i => n - (intOf i).toNat)
      case atStart => exact ⟨0, 0, Nat.zero_le _, rfl, rfl, by omega, rfl⟩
      case round =>
        obtain ⟨k, t, hk, rfl, rfl, ht, HT⟩ := hrel
        by_cases hkn : k < n
        · obtain ⟨b, off, rfl, hc⟩ := HC.out (by omega)
          obtain ⟨x, hx, hv⟩ := hc k hkn
          obtain ⟨a1, c1, rfl, _, _⟩ := hv.form
          obtain ⟨m, hm⟩ : ∃ m, (bss.getD k []).length = m := ⟨_, rfl⟩
          have hkl : k < bss.length := by rw [HN.out]; exact hkn
          have h1 := HFw.out.len hkl
          rw [hm, ← HT.out] at h1
          have HE : Hid (t + 17 + m = sizeL (bss.take (k + 1))) := by
            show _ = _
            rw [take_snoc hkl, sizeL_snoc, hm, HT.out]; omega
          rw [hm] at hx
          clear hv hc hkl hm
          go_wp2
          go_round
          case rel => exact ⟨k + 1, t + 17 + m, by omega, by go_num, by go_num, by omega, HE⟩
          case measure => simp [intOf]; omega
        · obtain rfl : k = n := by omega
          obtain rfl : t = S := by rw [HT.out, ← HN.out, List.take_length, HS.out]
          go_wp2_with (go_at_call 41; fail)
          obtain ⟨W5, hW5⟩ : ∃ W5, W4.alloc (.cells #[.int .u8 77, .int .u8 87, .int .u8 74, .int .u8 1] 5) = W5 := ⟨_, rfl⟩
          rw [hW5]
          have hb5 : Below W4.heap.size W4 W5 := hW5 ▸ (Below.refl _ _).alloc (Nat.le_refl _) _
          have hV5 : V W5 (.slice (some ⟨W4.heap.size, 0, none⟩) 4 4) [77, 87, 74, 1] := by
            refine V.mk ⟨?_, by simp⟩ rfl (Nat.le_refl _)
            intro k hk
            rw [← hW5]
            match k, hk with
            | 0, _ => simp
            | 1, _ => simp
            | 2, _ => simp
            | 3, _ => simp
            | j + 4, hj => exact absurd hj (by simp)
          clear hW5
          obtain ⟨B, hB⟩ : ∃ B, W4.heap.size = B := ⟨_, rfl⟩
          have HBB : Hid (W4.heap.size = B) := hB
          rw [hB] at hb5 hV5 hB4 ⊢
          clear hB
          refine (number_at W5 gen 8 hg (by decide)).mono ?_
          rintro e W6 ⟨x6, y6, rfl, hV6, hb6⟩
          have hS5 : B ≤ W5.heap.size := by have := hb5.size; rw [HBB.out] at this; exact this
          have J6 := join_at (hV5.next hb6) hV6 12 (by simp [dig_length]) (by decide)
          have hb06 : Below B W4 W6 := hb5.trans (hb6.mono hS5)
          clear hV5 hV6 hb5
          go_wp2_with (go_at_call 40; fail)
          refine J6.mono ?_
          rintro e W7 ⟨rfl, hO7, hb7⟩
          have hS6 : B ≤ W6.heap.size := Nat.le_trans hS5 hb6.size
          have hb07 : Below B W4 W7 := hb06.trans (hb7.mono hS6)
          have hS7 : B ≤ W7.heap.size := Nat.le_trans hS6 hb7.size
          clear J6 hb6 hb7 hb06 hS5
          go_wp2_with (go_at_call 41; fail)
          refine (number_at W7 k 4 (by omega) (by decide)).mono ?_
          rintro e W8 ⟨x8, y8, rfl, hV8, hb8⟩
          have J8 := join_at (hO7.v.next hb8) hV8 16 (by simp [dig_length]) (by decide)
          have hb08 : Below B W4 W8 := hb07.trans (hb8.mono hS7)
          have hS8 : B ≤ W8.heap.size := Nat.le_trans hS7 hb8.size
          clear hV8 hO7 hb8 hb07
          go_wp2_with (go_at_call 40; fail)
          refine J8.mono ?_
          rintro e W9 ⟨rfl, hO9, hb9⟩
          have hb09 : Below B W4 W9 := hb08.trans (hb9.mono hS8)
          have hS9 : B ≤ W9.heap.size := Nat.le_trans hS8 hb9.size
          clear J8 hb9 hb08
          go_wp2_with (go_at_call 41; fail)
          refine (number_at W9 t 4 (by omega) (by decide)).mono ?_
          rintro e W10 ⟨x10, y10, rfl, hV10, hb10⟩
          have J10 := join_at (hO9.v.next hb10) hV10 20 (by simp [dig_length]) (by decide)
          have hb010 : Below B W4 W10 := hb09.trans (hb10.mono hS9)
          have hS10 : B ≤ W10.heap.size := Nat.le_trans hS9 hb10.size
          clear hV10 hO9 hb10 hb09
          rw [show [77, 87, 74, 1] ++ dig 8 gen ++ dig 4 k ++ dig 4 t = hd0 gen k t from rfl] at J10
          go_wp2_with (go_at_call 40; fail)
          refine J10.mono ?_
          rintro e W11 ⟨rfl, hO11, hb11⟩
          have hb011 : Below B W4 W11 := hb010.trans (hb11.mono hS10)
          have hS11 : B ≤ W11.heap.size := Nat.le_trans hS10 hb11.size
          clear J10 hb11 hb010
          have c11 : Calls Tryd.prog 23 #[.slice (some ⟨W10.heap.size, 0, none⟩) 20 20] W11 fun e w' => e = .returned (.int .u32 (crc (hd0 gen k t) : Nat)) ∧ W11 = w' := rsum_any hO11.v (by rw [hd0_length]; decide)
          have hcl : crc (hd0 gen k t) < 4294967296 := crc_lt _ hO11.2
          obtain ⟨C, hC⟩ : ∃ C, crc (hd0 gen k t) = C := ⟨_, rfl⟩
          have HCc : Hid (crc (hd0 gen k t) = C) := hC
          rw [hC] at c11 hcl
          have ewc := wrap_u64_small C (by omega)
          clear hC
          go_wp2_with (first | (go_at_call 23; refine c11.mono ?_; rintro e w' ⟨rfl, rfl⟩) | (go_at_call 41; fail))
          refine (number_at W11 C 4 (by omega) (by decide)).mono ?_
          rintro e W12 ⟨x12, y12, rfl, hV12, hb12⟩
          have J12 := join_at (hO11.v.next hb12) hV12 24 (by simp [dig_length, hd0_length]) (by decide)
          have hb012 : Below B W4 W12 := hb011.trans (hb12.mono hS11)
          have hS12 : B ≤ W12.heap.size := Nat.le_trans hS11 hb12.size
          clear hV12 hO11 hb12 hb011 c11
          obtain ⟨H, hH⟩ : ∃ H, hd0 gen k t ++ dig 4 C = H := ⟨_, rfl⟩
          have HH : Hid (hd0 gen k t ++ dig 4 (crc (hd0 gen k t)) = H) := by rw [HCc.out]; exact hH
          have HHl : Hid (H.length = 24) := by show _ = _; rw [← hH]; simp [hd0_length, dig_length]
          have HHd : Hid (∀ l, (H ++ l).getD 0 0 = 77) := by intro l; rw [← hH]; simp [hd0]
          rw [hH] at J12
          go_wp2_with (go_at_call 40; fail)
          refine J12.mono ?_
          rintro e W13 ⟨rfl, hO13, hb13⟩
          have hb013 : Below B W4 W13 := hb012.trans (hb13.mono hS12)
          have HO13 : Hid (Own W13 B (.slice (some ⟨W12.heap.size, 0, none⟩) 24 24) H) := hO13.base hS12
          have HB13 : Hid (Below B W4 W13) := hb013
          clear J12 hb13 hb012 hO13 hb013 hH hS12 hS11 hS10 hS9 hS8 hS7 hS6 ewc hcl ewn ewS hg hgb HCc
          obtain ⟨i0, hi, hz0, hz1, hz2⟩ := info_parts Tryd.info5
          go_wp2
          go_loopw [9, 10] (fun o i wr => ∃ k' r : Nat, ∃ a p, k' ≤ k ∧ i = .int .i64 k' ∧ r ≤ 24 + t ∧ o = .slice a r p ∧ Hid (r = 24 + sizeL (bss.take k')) ∧ Hid (Own wr B (.slice a r p) (H ++ framesL 0 (bss.take k'))) ∧ Hid (Below B W4 wr)) (fun _ i _ => k - (intOf i).toNat)
          case atStart => exact ⟨0, 24, _, _, Nat.zero_le _, rfl, by omega, rfl, rfl, by simpa [framesL, Hid] using HO13.out, HB13⟩
          case round =>
            clear HO13 HB13
            obtain ⟨k', r, oa, op, hk', rfl, hr, rfl, HR, HO, HBe⟩ := hrel
            by_cases hkn' : k' < k
            · obtain ⟨b, off, rfl, hc⟩ := HC.out (by omega)
              obtain ⟨x, hx, hv⟩ := hc k' hkn'
              have hkl : k' < bss.length := by rw [HN.out]; exact hkn'
              have hxr : wr.cell? ⟨b, off + k', none⟩ = some x := (HBe.out.cell (p := ⟨b, off + k', none⟩) (by rw [← HBB.out]; exact cell_lt hx)).trans hx
              have hfit := sizeL_take_le bss (k' + 1)
              rw [take_snoc hkl, sizeL_snoc, HS.out] at hfit
              have hR := HR.out
              have hvr : V wr x (bss.getD k' []) := hv.next (by rw [HBB.out]; exact HBe.out)
              have c37 := rframe_any hvr k' (by omega) (by have := HSm.out k' hkl; omega)
              obtain ⟨a1, c1, rfl, _, _⟩ := hv.form
              obtain ⟨m, hm⟩ : ∃ m, (bss.getD k' []).length = m := ⟨_, rfl⟩
              rw [hm] at hxr hfit c37
              have hk32 : (k' : Int) % 4294967296 = (k' : Int) := by omega
              have HE1 : Hid (H ++ framesL 0 (bss.take k') ++ frameL k' (bss.getD k' []) = H ++ framesL 0 (bss.take (k' + 1))) := by
                show _ = _
                rw [take_snoc hkl, framesL_snoc, Nat.zero_add, List.length_take, Nat.min_eq_left (by omega), List.append_assoc]
              have HE2 : Hid (r + (17 + m) = 24 + sizeL (bss.take (k' + 1))) := by
                show _ = _
                rw [take_snoc hkl, sizeL_snoc, hm, hR]; omega
              have hr2 : r + (17 + m) ≤ 24 + t := by omega
              have hr24 : 24 ≤ r := by omega
              obtain ⟨F, hF⟩ : ∃ F, frameL k' (bss.getD k' []) = F := ⟨_, rfl⟩
              have HFl : Hid (F.length = 17 + m) := by show _ = _; rw [← hF, frameL_length, hm]
              have HFh : Hid (F.getD 0 0 = 165) := by rw [← hF]; exact frameL_head _ _
              rw [hF] at c37 HE1
              obtain ⟨L, hL⟩ : ∃ L, H ++ framesL 0 (bss.take k') = L := ⟨_, rfl⟩
              have HLl : Hid (L.length = r) := by show _ = _; rw [← hL, List.length_append, HHl.out, framesL_length, hR]
              have HLh : Hid (∀ l, (L ++ l).getD 0 0 = 77) := by intro l; rw [← hL, List.append_assoc]; exact HHd.out _
              rw [hL] at HE1 HO
              clear hx hv hc hkl hm hR hfit hF hL hvr
              go_wp2_with (go_at_call 37; fail)
              refine c37.mono ?_
              rintro e w1 ⟨vF, rfl, hOF, hb1⟩
              have hSr : B ≤ wr.heap.size := by have := HBe.out.size; rw [HBB.out] at this; exact this
              obtain ⟨gF, pF, rfl⟩ := hOF.addr (by rw [HFl.out]; omega)
              rw [HFl.out] at hOF ⊢
              have HOF : Hid (Own w1 B (.slice (some ⟨gF, 0, none⟩) (17 + m) pF) F) := hOF.base hSr
              have HO1 : Hid (Own w1 B (.slice oa r op) L) := HO.out.next hb1
              have HBe1 : Hid (Below B W4 w1) := HBe.out.trans (hb1.mono hSr)
              clear c37 hOF hb1 HO HBe hxr hSr
              go_wp2
              go_loopw [9, 12] (fun o i wr => ∃ j : Nat, ∃ a p, j ≤ 17 + m ∧ i = .int .i64 j ∧ o = .slice a (r + j) p ∧ Hid (Own wr B (.slice a (r + j) p) (L ++ F.take j)) ∧ Hid (Own wr B (.slice (some ⟨gF, 0, none⟩) (17 + m) pF) F) ∧ Hid (Below B W4 wr)) (fun _ i _ => 17 + m - (intOf i).toNat)
              case atStart => exact ⟨0, _, _, Nat.zero_le _, rfl, rfl, by simpa [Hid] using HO1.out, HOF, HBe1⟩
              case round =>
                clear HO1 HOF HBe1
                obtain ⟨j, ja, jp, hj, rfl, rfl, HO, HOF, HBe⟩ := hrel
                by_cases hjm : j < 17 + m
                · have hSr : B ≤ wr.heap.size := by have := HBe.out.size; rw [HBB.out] at this; exact this
                  have hjF : j < F.length := by rw [HFl.out]; exact hjm
                  obtain ⟨y, HY, hcy⟩ : ∃ y, Hid (y = F.getD j 0) ∧ wr.cell? ⟨gF, j, none⟩ = some (.int .u8 (y : Int)) := ⟨_, rfl, HOF.out.get HFl.out j hjm⟩
                  have hyl : y < 256 := by rw [HY.out, List.getD_eq_getElem?_getD, List.getElem?_eq_getElem hjF]; exact HOF.out.2 _ (List.getElem_mem _)
                  have hll : (L ++ F.take j).length = r + j := by rw [List.length_append, HLl.out, List.length_take]; omega
                  have hown : wr.ownsRow B 5 1 (.slice ja (r + j) jp) (r + j) (u8s (L ++ F.take j)) := by have := HO.out.1; rw [hll] at this; exact this
                  have HTk : Hid (L ++ F.take (j + 1) = L ++ F.take j ++ [y]) := by show _ = _; rw [take_get hjF, HY.out, List.append_assoc]
                  obtain ⟨M, hM⟩ : ∃ M, L ++ F.take j = M := ⟨_, rfl⟩
                  have HMh : Hid (M.getD 0 0 = 77) := by rw [← hM]; exact HLh.out _
                  have HMl : Hid (M.length = r + j) := by rw [← hM]; exact hll
                  rw [hM] at hown HTk HO
                  clear hll hM hjF
                  go_wp2_with (first | (at_builtin; refine wpList_append_own _ rfl _ _ 22 rfl B 5 i0 (.int .u8 0) 1 1 Tryd.underlying22 hi hz0 hz1 hz2 rfl (by decide) _ _ _ rfl (hown.alloc _) ⟨wr.heap.size, 0, none⟩ 1 1 [.int .u8 (y : Int)] rfl rfl ?_ ?_ ?_ ?_ ?_ ?_) | fail)
                  · exact cell_one_new _ _ _
                  · intro u hu; simp at hu; subst hu; rfl
                  · unfold maxLen; omega
                  · omega
                  · simp; omega
                  · intro v' w1 hown' hgrow _
                    have HBe' : Hid (Below B W4 w1) := (HBe.out.alloc hSr _).grown hgrow (by simp; omega) (fun j hj => (hown.lt j hj).1)
                    have hO' : Own w1 B v' (M ++ [y]) := Own.snoc HMl.out hown' HO.out.2 hyl
                    have hOF' : Own w1 B (.slice (some ⟨gF, 0, none⟩) (17 + m) pF) F := own_keep (w := wr.alloc _) (v1 := .slice ja (r + j) jp) (l1 := M) ⟨HO.out.1.alloc _, HO.out.2⟩ ⟨HOF.out.1.alloc _, HOF.out.2⟩ (by rw [HMh.out, HFh.out]; decide) (by rw [HMl.out]; omega) (by rw [HFl.out]; omega) hgrow
                    rw [← HTk.out] at hO'
                    obtain ⟨a', p', rfl⟩ := hO'.shape
                    rw [HTk.out, List.length_append, HMl.out] at hO' ⊢
                    rw [← HTk.out] at hO'
                    have HO' : Hid (Own w1 B (.slice a' (r + (j + 1)) p') (L ++ F.take (j + 1))) := hO'
                    have HOF2 : Hid (Own w1 B (.slice (some ⟨gF, 0, none⟩) (17 + m) pF) F) := hOF'
                    clear hgrow hown hcy hown' hO' hOF' HO HOF HBe
                    go_wp2
                    go_roundw
                    case rel => exact ⟨j + 1, a', p', by omega, by go_num, rfl, HO', HOF2, HBe'⟩
                    case measure => simp [intOf]; omega
                · obtain rfl : j = 17 + m := by omega
                  have HO2 : Hid (Own wr B (.slice ja (r + (17 + m)) jp) (H ++ framesL 0 (bss.take (k' + 1)))) := by
                    show Own _ _ _ _
                    have := HO.out
                    rw [← HFl.out, List.take_length, HFl.out] at this
                    rw [← HE1.out]
                    exact this
                  clear HO HOF
                  go_wp2
                  go_roundw
                  case rel => exact ⟨k' + 1, r + (17 + m), ja, jp, by omega, by go_num, hr2, rfl, HE2, HO2, HBe⟩
                  case measure => simp [intOf]; omega
            · obtain rfl : k' = k := by omega
              have hlt6 : p6 < W4.heap.size := cell_lt D0.out
              rw [HBB.out] at hlt6
              have d0 := (HBe.out.cell (p := ⟨p6, 0, none⟩) hlt6).trans D0.out
              have d1 := (HBe.out.cell (p := ⟨p6, 1, none⟩) hlt6).trans D1.out
              have hbw : Below W4.heap.size W4 wr := by rw [HBB.out]; exact HBe.out
              obtain ⟨f0, f1, ff⟩ := HF4.out.next hbw (by rw [HBB.out]; omega)
              go_wp2
              go_region
              all_goals
                go_wp2
                obtain ⟨u0, u1⟩ := Fc.sets (W := wr) ⟨f0, f1, ff⟩ (.slice none 0 0) (.int .i64 0)
                refine bodyPost_ret (v := .tuple #[.slice oa r op, .agg #[.slice none 0 0, .int .i64 0]]) (by simp only [results, Tryd.results22]; simp [go_sem, u0, u1]) rfl ?_
                refine ⟨_, _, rfl, ?_, rfl, ?_⟩
                · have e : H ++ framesL 0 (bss.take k') = headL gen bss := by
                    have e2 : bss.take k' = bss := by rw [← HN.out]; exact List.take_length
                    unfold headL
                    rw [HN.out, HS.out, HH.out, e2]
                  have hO := HO.out
                  rw [e] at hO
                  have hO2 : Own ((wr.setCell ⟨w.heap.size, 0, none⟩ (.slice none 0 0)).setCell ⟨w.heap.size, 1, none⟩ (.int .i64 0)) (w.heap.size + 1) (.slice oa r op) (headL gen bss) := ((hO.base hB4).set (Nat.lt_succ_self _) _).set (Nat.lt_succ_self _) _
                  exact hO2
                · exact (((HB4.out.trans (HBe.out.mono (by omega))).setCell (p := ⟨w.heap.size, 0, none⟩) (Nat.le_refl _) _).setCell (p := ⟨w.heap.size, 1, none⟩) (Nat.le_refl _) _).drew
end Go.Proofs.YtngmleddlfkecaaDoor
