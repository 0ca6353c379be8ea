import Derived.Test.YtddbdipgmdmkpaaG
/-
  DERIVED. The document's dictionary, as a list.
-/
namespace Go.Proofs.Ytddbdipgmdmkpaa
open Go Go.Proofs Go.RowKit

theorem info44 : (Try.prog.info? 44).map (fun i => (i.zero, i.size, i.bytes)) = some (some (.agg #[.int .u32 0, .int .u32 0, .int .i64 0, .string ⟨#[]⟩, .int .i64 0, .int .i64 0]), 6, 48) := by kernel_rfl

theorem owns_next {w w' : World} {B s n : Nat} {e : TypeId} {v : Value} {xs : List Value} (h : w.ownsRow B e s v n xs) (hb : Below w.heap.size w w') : w'.ownsRow B e s v n xs := by
  refine ⟨h.1, ?_⟩
  rcases h.2 with h2 | ⟨g, cap, cur, rfl, h1, h2, h3⟩
  · exact .inl h2
  · exact .inr ⟨g, cap, cur, rfl, h1, by rw [hb.block g (Array.getElem?_eq_some_iff.1 h2).1]; exact h2, h3⟩

theorem cell_six {w : World} {x0 x1 x2 x3 x4 x5 : Value} {t : TypeId} : ∀ j u, [x0, x1, x2, x3, x4, x5][j]? = some u → (w.alloc (.cells #[x0, x1, x2, x3, x4, x5] t)).cell? ((⟨w.heap.size, 0, none⟩ : Addr).add j) = some u := by
  intro j u hj
  match j, hj with
  | 0, hj => simp at hj; subst hj; simp [Addr.add]
  | 1, hj => simp at hj; subst hj; simp [Addr.add]
  | 2, hj => simp at hj; subst hj; simp [Addr.add]
  | 3, hj => simp at hj; subst hj; simp [Addr.add]
  | 4, hj => simp at hj; subst hj; simp [Addr.add]
  | 5, hj => simp at hj; subst hj; simp [Addr.add]
  | n + 6, hj => simp at hj

/-- A line's entry, cell by cell. -/
def entC (S : ByteArray) : List Value := [.int .u32 (tagL (bts S) 9 : Nat), .int .u32 (maskL (bts S) : Nat), .int .i64 (fndW (wd S 1) 28 1 : Nat), .string (wd S 3), .int .i64 ((numL (wd S 2)).1 : Nat), .int .i64 ((numL (wd S 2)).2 : Nat)]

/-- So many entries, cell by cell. -/
def entsC (k : Nat) : List Value := (lns.take k).flatMap fun l => entC (lnB l)

theorem entsC_succ (k : Nat) (hk : k < 253) : entsC (k + 1) = entsC k ++ entC (lnB (lns.getD k [])) := by
  have e : lns.take (k + 1) = lns.take k ++ [lns.getD k []] := by
    have hl : k < lns.length := by rw [lns_len]; exact hk
    rw [List.take_add_one, List.getD_eq_getElem?_getD, List.getElem?_eq_getElem hl]
    rfl
  unfold entsC
  rw [e, List.flatMap_append]
  simp only [List.flatMap_cons, List.flatMap_nil, List.append_nil]

theorem line_good (k : Nat) (hk : k < 253) : 9 ≤ (lnB (lns.getD k [])).size ∧ (lnB (lns.getD k [])).size ≤ 1000 ∧ tagOk (bts (lnB (lns.getD k []))) = true ∧ numOk (wd (lnB (lns.getD k [])) 2) = true := by
  have hm : lns.getD k [] ∈ lns := by
    rw [List.getD_eq_getElem?_getD, List.getElem?_eq_getElem (show k < lns.length by rw [lns_len]; exact hk)]
    exact List.getElem_mem _
  have := lns_at hm
  unfold lnOk at this
  simp only [Bool.and_eq_true, decide_eq_true_eq] at this
  exact this.2

set_option maxRecDepth 100000 in
theorem at22 {K : Act → World → Prop} {Q : Exit → Act → World → Prop} {w : World} {u0 u1 u3 u4 u5 u7 u8 u9 u10 u11 u12 u13 u14 u15 u16 u17 : Value} (S : ByteArray) (n : Int) (ty : TypeId) (pos : String) (af : Array Edge) (ats : Array TypeId)
    (h : Calls Try.prog 22 #[.string S, .int .i64 n] w fun e w' => ∃ v, e = .returned v ∧ K { tmps := #[u0, u1, .int .i64 n, u3, u4, u5, .int .i64 n, v, u8, u9, u10, u11, u12, u13, u14, u15, u16, u17], defers := [] } w') :
    Oper.wp Try.prog { dst := some 7, op := Op.call { callee := Callee.value (Operand.func 22), args := #[Operand.const (Value.string S), Operand.tmp 6], argTypes := ats }, type := ty, pos := pos, after := af, guard := none } { tmps := #[u0, u1, .int .i64 n, u3, u4, u5, .int .i64 n, u7, u8, u9, u10, u11, u12, u13, u14, u15, u16, u17], defers := [] } w K Q := by
  go_wp2_with (go_at_call 22; refine h.mono ?_; rintro e w' ⟨v, rfl, hk⟩)
  exact hk

set_option maxRecDepth 100000 in
theorem at11 {K : Act → World → Prop} {Q : Exit → Act → World → Prop} {w : World} {u0 u1 u2 u3 u4 u5 u6 u7 u8 u11 u12 u13 u14 u15 u16 u17 : Value} (S : ByteArray) (a b : Nat) (hab : a ≤ b) (hb : b ≤ S.size) (ty : TypeId) (pos : String) (af : Array Edge)
    (h : K { tmps := #[u0, u1, u2, u3, u4, u5, u6, u7, u8, .int .i64 (a : Int), .int .i64 (b : Int), .string (S.extract a b), u12, u13, u14, u15, u16, u17], defers := [] } w) :
    Oper.wp Try.prog { dst := some 11, op := Op.slice 9 (Operand.const (Value.string S)) (some (Operand.tmp 9)) (some (Operand.tmp 10)) none, type := ty, pos := pos, after := af, guard := none } { tmps := #[u0, u1, u2, u3, u4, u5, u6, u7, u8, .int .i64 (a : Int), .int .i64 (b : Int), u11, u12, u13, u14, u15, u16, u17], defers := [] } w K Q := by
  have h1 : (a : Int) ≤ (b : Int) := by omega
  have h2 : (b : Int) ≤ (S.size : Int) := by omega
  go_wp2
  exact h
set_option maxRecDepth 1000000 in
set_option maxHeartbeats 4000000 in
theorem entries_any (w : World) : Calls Try.prog 16 #[] w fun e w' => ∃ ao cp, e = .returned (.slice ao 253 cp) ∧ w'.ownsRow w.heap.size 44 6 (.slice ao 253 cp) 253 (entsC 253) ∧ Below w.heap.size w w' := by
  obtain ⟨i0, hi, hz0, hz1, hz2⟩ := info_parts info44
  obtain ⟨B, hB⟩ : ∃ B, B = w.heap.size := ⟨_, rfl⟩
  rw [← hB]
  have HB : Hid (B = w.heap.size) := hB
  clear hB
  go_enter Try.func16, Try.ntmps16
  go_wp2
  go_loopw [1, 2] (fun v i wr => ∃ (k : Nat) (ao : Option Addr) (cp : Nat), i = .int .i64 ((stt lns k : Nat) : Int) ∧ k ≤ 253 ∧ v = .slice ao k cp ∧ wr.ownsRow B 44 6 (.slice ao k cp) k (entsC k) ∧ Hid (Below B w wr)) (fun _ i _ => 10000 - (intOf i).toNat)
  case atStart => exact ⟨0, none, 0, rfl, by omega, rfl, World.ownsRow_nil _ _ _ _, Below.refl _ _⟩
  case round =>
    obtain ⟨k, ao, cp, rfl, hk, rfl, hown, HBe⟩ := hrel
    by_cases hk2 : k < 253
    · have HSu : Hid (stt lns (k + 1) = stt lns k + (lns.getD k []).length + 1) := stt_succ lns k (by rw [lns_len]; exact hk2)
      have hle : stt lns k + (lns.getD k []).length + 1 ≤ 9128 := by
        rw [← HSu.out]
        have := stt_le lns (k + 1) (by rw [lns_len]; omega)
        rw [cat_length, lns_len, lns_end] at this
        exact this
      have c22 := fun S hS => end_line wr S hS k hk2
      have HTx : Hid (attrsB.extract (stt lns k) (stt lns k + (lns.getD k []).length) = lnB (lns.getD k [])) := line_text k hk2
      have HEs : Hid (entsC (k + 1) = entsC k ++ entC (lnB (lns.getD k []))) := entsC_succ k hk2
      obtain ⟨g1, g2, g3, g4⟩ := line_good k hk2
      have c23 : ∀ S, S = lnB (lns.getD k []) → Calls Try.prog 23 #[.string S] wr fun e w' => e = .returned (entV (lnB (lns.getD k []))) ∧ Below wr.heap.size wr w' := by
        intro S hS
        rw [hS]
        exact entry_any wr _ g1 g2 g3 g4
      unfold entV at c23
      unfold entC at HEs
      have hsz : (attrsB.size : Int) = 9128 := by rw [attrs_size]; rfl
      clear g1 g2 g3 g4
      generalize lnB (lns.getD k []) = S at HTx HEs c23
      generalize (lns.getD k []).length = m at HSu hle c22 HTx
      generalize stt lns k = a at HSu hle c22 HTx ⊢
      generalize tagL (bts S) 9 = T at c23 HEs
      generalize maskL (bts S) = M at c23 HEs
      generalize fndW (wd S 1) 28 1 = V at c23 HEs
      generalize wd S 3 = K3 at c23 HEs
      generalize (numL (wd S 2)).1 = L1 at c23 HEs
      generalize (numL (wd S 2)).2 = L2 at c23 HEs
      go_wp2
      refine at22 _ _ _ _ _ _ ((c22 _ (by kernel_rfl)).mono ?_)
      rintro e w' ⟨rfl, rfl⟩
      refine ⟨_, rfl, ?_⟩
      go_wp2
      refine at11 _ a (a + m) (by omega) (Nat.le_trans (by omega) (Nat.le_of_eq attrs_size.symm)) _ _ _ ?_
      rw [HTx.out]
      clear c22
      go_wp2_with (go_at_call 23; fail)
      refine (c23 _ rfl).mono ?_
      rintro e W2 ⟨rfl, hb2⟩
      have hs2 : B ≤ W2.heap.size := Nat.le_trans (by rw [HB.out]; exact HBe.out.size) hb2.size
      have ha3 : Below W2.heap.size W2 (W2.alloc (.cells #[.int .u32 (T : Int), .int .u32 (M : Int), .int .i64 (V : Int), .string K3, .int .i64 (L1 : Int), .int .i64 (L2 : Int)] 44)) := (Below.refl _ _).alloc (Nat.le_refl _) _
      have hown3 : (W2.alloc (.cells #[.int .u32 (T : Int), .int .u32 (M : Int), .int .i64 (V : Int), .string K3, .int .i64 (L1 : Int), .int .i64 (L2 : Int)] 44)).ownsRow B 44 6 (.slice ao k cp) k (entsC k) := owns_next (owns_next hown hb2) ha3
      have HB3 : Hid (Below B w (W2.alloc (.cells #[.int .u32 (T : Int), .int .u32 (M : Int), .int .i64 (V : Int), .string K3, .int .i64 (L1 : Int), .int .i64 (L2 : Int)] 44))) := (HBe.out.trans (hb2.mono (by rw [HB.out]; exact HBe.out.size))).alloc hs2 _
      clear c23 hb2 ha3 hown
      go_wp2_with (at_builtin; refine wpList_append_own _ rfl (.tmp 8) (.tmp 13) 38 rfl B 44 i0 _ 6 48 Try.underlying38 hi hz0 hz1 hz2 rfl (by decide) (.slice ao k cp) k (entsC k) rfl hown3 ⟨W2.heap.size, 0, none⟩ 1 1 [.int .u32 (T : Int), .int .u32 (M : Int), .int .i64 (V : Int), .string K3, .int .i64 (L1 : Int), .int .i64 (L2 : Int)] rfl rfl ?_ ?_ ?_ ?_ ?_ ?_)
      · exact cell_six
      · intro u hu; simp at hu; rcases hu with rfl | rfl | rfl | rfl | rfl | rfl <;> rfl
      · unfold maxLen; omega
      · omega
      · simp; omega
      · intro v4 W4 hown4 hgrow4 _
        have HB4 : Hid (Below B w W4) := HB3.out.grown hgrow4 (by simp; omega) (fun j hj => (hown3.lt j hj).1)
        rw [← HEs.out] at hown4
        obtain ⟨a4, p4, rfl⟩ : ∃ a4 p4, v4 = .slice a4 (k + 1) p4 := by
          rcases hown4.2 with ⟨rfl, h0⟩ | ⟨g, p, cur, rfl, _⟩
          · omega
          · exact ⟨_, _, rfl⟩
        have HO4 : Hid (W4.ownsRow B 44 6 (.slice a4 (k + 1) p4) (k + 1) (entsC (k + 1))) := hown4
        clear hown3 hgrow4 hown4
        go_wp2
        exact ⟨⟨k + 1, a4, p4, by rw [HSu.out]; simp, by omega, rfl, HO4.out, HB4⟩, by simp [intOf]; omega⟩
    · obtain rfl : k = 253 := by omega
      have hst : stt lns 253 = 9128 := lns_end
      rw [hst]
      clear hst
      go_wp2
      go_ret
      refine ⟨ao, cp, rfl, hown, ?_⟩
      exact HBe.out
end Go.Proofs.Ytddbdipgmdmkpaa
