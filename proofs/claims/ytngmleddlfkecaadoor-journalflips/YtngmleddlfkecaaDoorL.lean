import Derived.Test.YtngmleddlfkecaaDoorK
namespace Go.Proofs.YtngmleddlfkecaaDoor
open Go Go.Proofs Go.RowKit

theorem Tab.next {w w' : World} (h : Tab w) (hb : Below w.heap.size w w') : Tab w' := fun i hi => (hb.cell (World.block_lt_of_cell? w ⟨0, i, none⟩ (h i hi))).trans (h i hi)

theorem u8s_one (bs : List Nat) : ∀ u ∈ u8s bs, u.oneCell' = true := by
  intro u hu
  simp only [u8s, List.mem_map] at hu
  obtain ⟨b, _, rfl⟩ := hu
  rfl

theorem At.news {w : World} {b off : Nat} {bs : List Nat} (h : At w b off bs) : ∀ j u, (u8s bs)[j]? = some u → w.cell? ((⟨b, off, none⟩ : Addr).add j) = some u := by
  intro j u hu
  have hj : j < bs.length := by
    have := (List.getElem?_eq_some_iff.1 hu).1
    rwa [u8s_length] at this
  rw [u8s_get bs j hj] at hu
  rw [← hu, ← h.1 j hj]
  by_cases h0 : j = 0
  · subst h0; simp [Addr.add]
  · simp [Addr.add, h0]

set_option maxRecDepth 100000 in
theorem frames_some (w : World) (b off l cap : Nat) (d : List Nat) (hb : At w b off d) (hT : Tab w) (hlen : d.length = l) (hc : l < cap) (hl : l ≤ 400000) :
    Calls Tryd.prog 31 #[.slice (some ⟨b, off, none⟩) l cap] w fun e w' => ∃ k pos bss v, e = .returned (.tuple #[v, .int .i64 (pos : Nat)]) ∧ EndP d k pos bss ∧ VV w' w.heap.size v bss ∧ Below w.heap.size w w' := by
  have HN : Hid (d.length = l) := hlen
  clear hlen
  obtain ⟨i0, hi, hz0, hz1, hz2⟩ := info_parts Tryd.info5
  obtain ⟨i1, hj, hy0, hy1, hy2⟩ := info_parts Tryd.info22
  obtain ⟨B, hB⟩ : ∃ B, B = w.heap.size := ⟨_, rfl⟩
  rw [← hB]
  have HB : Hid (B = w.heap.size) := hB
  clear hB
  go_enter Tryd.func31, Tryd.ntmps31
  go_wp2
  go_loopw [2, 3] (fun v i wr => ∃ (k pos : Nat) (bss : List (List Nat)) (cells : List Value) (ao : Option Addr) (cp : Nat), Hid (runP d k = some (pos, bss)) ∧ k ≤ 400000 ∧ pos ≤ l ∧ i = .int .i64 pos ∧ v = .slice ao k cp ∧ wr.ownsRow B 22 1 (.slice ao k cp) k cells ∧ Hid (∀ i, i < bss.length → Own wr B (cells.getD i undef) (bss.getD i [])) ∧ Below B w wr) (fun _ i _ => l - (intOf i).toNat)
  case atStart => exact ⟨0, 0, [], [], none, 0, rfl, by omega, by omega, rfl, rfl, World.ownsRow_nil _ _ _ _, by intro i hi; simp at hi, Below.refl _ _⟩
  case round =>
    obtain ⟨k, pos, bss, cells, ao, cp, HR, hk, hpos, rfl, rfl, hown, HI, hbe⟩ := hrel
    have HBr : Hid (B ≤ wr.heap.size) := by have := hbe.size; rw [HB.out]; exact this
    have hbe' : Below w.heap.size w wr := by rw [← HB.out]; exact hbe
    have HA : Hid (At wr b off d) := hb.next hbe'
    have HTr : Hid (Tab wr) := hT.next hbe'
    have hcp : ¬ cap = pos := by omega
    have hk32 : (k : Int) % 4294967296 = (k : Int) := by omega
    clear hbe'
    cases hf : frameP (d.drop pos) k with
    | false =>
      have c := frame_no (w := wr) (k := k) (V.mk (HA.out.drop pos) (n := l - pos) (cap := cap - pos) (by rw [List.length_drop, HN.out]) (by omega)) HTr.out (by rw [List.length_drop, HN.out]; omega) hf
      have HF : Hid (EndP d k pos bss) := ⟨HR.out, hf⟩
      clear hf
      go_wp2_with (go_at_call 46; refine c.mono ?_; rintro e w' ⟨rfl, m, rfl⟩)
      go_ret2
      refine ⟨k, pos, bss, _, rfl, HF, ?_, below_drewN hbe _⟩
      refine ⟨cells, ?_, HI⟩
      rw [(runP_facts HR.out).1]
      exact hown
    | true =>
      have c := frame_yes (w := wr) (k := k) (HA.out.drop pos) HTr.out (l := l - pos) (cap := cap - pos) (by rw [List.length_drop, HN.out]) (by omega) (by omega) hf
      have HF : Hid (frameP (d.drop pos) k = true) := hf
      obtain ⟨hf1, hf2⟩ := frameP_len hf
      rw [List.length_drop, HN.out] at hf1
      obtain ⟨m, hm⟩ : ∃ m, lenP (d.drop pos) = m := ⟨_, rfl⟩
      rw [hm] at c hf1 hf2
      have HM : Hid (lenP (d.drop pos) = m) := hm
      clear hf hm
      obtain ⟨body, HY, HAb, HL⟩ : ∃ body, Hid (body = bodyP (d.drop pos)) ∧ Hid (At wr b (off + pos + 13) body) ∧ Hid (body.length = m) := by
        refine ⟨_, rfl, ?_, ?_⟩
        · have := ((HA.out.drop pos).drop 13).take (lenP (d.drop pos))
          exact this
        · show (bodyP _).length = m
          unfold bodyP
          rw [List.length_take, List.length_drop, List.length_drop, HN.out, HM.out]
          omega
      go_wp2_with (first | (go_at_call 46; refine c.mono ?_; rintro e w' ⟨rfl, mm, rfl⟩) | (at_builtin; refine wpList_append_own _ rfl (.const (.slice none 0 0)) (.tmp 21) 22 rfl B 5 i0 (.int .u8 0) 1 1 Tryd.underlying22 hi hz0 hz1 hz2 rfl (by decide) (.slice none 0 0) 0 [] rfl (World.ownsRow_nil _ _ _ _) ⟨b, off + pos + 13, none⟩ m (cap - pos - 13) (u8s body) rfl ?_ ?_ ?_ ?_ ?_ ?_ ?_))
      · rw [u8s_length, HL.out, Nat.mul_one]
      · exact HAb.out.news
      · exact u8s_one body
      · unfold maxLen; omega
      · omega
      · exact HBr.out
      · intro v1 w1 hown1 hgrow1 _
        obtain ⟨a1, p1, rfl⟩ : ∃ a1 p1, v1 = .slice a1 m p1 := by
          rcases hown1.2 with ⟨rfl, h0⟩ | ⟨g, p, cur, rfl, _⟩
          · exact ⟨none, 0, by rw [h0]⟩
          · exact ⟨_, _, rfl⟩
        have HO1 : Hid (Own w1 B (.slice a1 m p1) body) := ⟨by rw [HL.out]; exact hown1, HAb.out.2⟩
        have HB1 : Hid (Below wr.heap.size wr w1) := (below_drewN (Below.refl _ _) mm).grown hgrow1 (Nat.le_refl _) (by simp [Value.ownBlock])
        have hownO : w1.ownsRow B 22 1 (.slice ao k cp) k cells := owns_next hown HB1.out
        have HS1 : Hid (B ≤ w1.heap.size) := Nat.le_trans HBr.out HB1.out.size
        have HP : Hid (∀ w2 v2, w2.ownsRow B 22 1 v2 (k + 1) (cells ++ [.slice a1 m p1]) → (w1.alloc (.cells #[.slice a1 m p1] 22)).grownBy w2 (Value.slice ao k cp).ownBlock → VV w2 B v2 (bss ++ [body]) ∧ Below B w w2) := by
          intro w2 v2 ho2 hg2
          have hbl := (runP_facts HR.out).1
          have ha : Below w1.heap.size w1 (w1.alloc (.cells #[.slice a1 m p1] 22)) := (Below.refl _ _).alloc (Nat.le_refl _) _
          have hb2 : Below B w (w1.alloc (.cells #[.slice a1 m p1] 22)) := (hbe.trans (HB1.out.mono HBr.out)).alloc HS1.out _
          refine ⟨VV.push (w := wr) (w1 := w1.alloc (.cells #[.slice a1 m p1] 22)) (cells := cells) (v := .slice ao k cp) (v1 := .slice a1 m p1) (by rw [hbl]; exact hown) HI.out (HB1.out.trans (ha.mono HB1.out.size)) (HO1.out.next ha) (by rw [hbl]; exact hownO.alloc _) (by rw [hbl]; exact ho2) hg2, ?_⟩
          exact hb2.grown hg2 (by have := HS1.out; simp; omega) (fun j hj => (hownO.lt j hj).1)
        clear hgrow1 hown1 hown
        go_wp2_with (first | (at_builtin; refine wpList_append_own _ rfl (.tmp 20) (.tmp 23) 31 rfl B 22 i1 (.slice none 0 0) 1 24 Tryd.underlying31 hj hy0 hy1 hy2 rfl (by decide) (.slice ao k cp) k cells rfl (hownO.alloc _) ⟨w1.heap.size, 0, none⟩ 1 1 [.slice a1 m p1] rfl rfl ?_ ?_ ?_ ?_ ?_ ?_) | fail)
        · exact cell_one_new _ _ _
        · intro u hu; simp at hu; subst hu; rfl
        · unfold maxLen; omega
        · omega
        · have := HS1.out; simp; omega
        · intro v2 w2 hown2 hgrow2 _
          obtain ⟨hVV, hB2⟩ := HP.out w2 v2 hown2 hgrow2
          have hR2 := runP_step HR.out HF.out
          rw [← HY.out, HM.out] at hR2
          clear hgrow2 hownO
          go_wp2
          go_roundw
          case rel =>
            obtain ⟨h1, h2, h3⟩ := runP_facts hR2
            obtain ⟨cells2, hc1, hc2⟩ := hVV
            rw [h1] at hc1
            obtain ⟨a3, p3, rfl⟩ : ∃ a3 p3, v2 = .slice a3 (k + 1) p3 := by
              rcases hc1.2 with ⟨rfl, h0⟩ | ⟨g, p, cur, rfl, _⟩
              · exact ⟨none, 0, by rw [h0]⟩
              · exact ⟨_, _, rfl⟩
            exact ⟨k + 1, pos + (17 + m), bss ++ [body], cells2, a3, p3, hR2, by omega, by omega, by go_num, rfl, hc1, hc2, hB2⟩
          case measure => simp [intOf]; omega
end Go.Proofs.YtngmleddlfkecaaDoor
