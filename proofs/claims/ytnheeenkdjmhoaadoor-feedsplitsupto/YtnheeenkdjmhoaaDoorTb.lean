import Derived.Test.YtnheeenkdjmhoaaDoorT
/-
  DERIVED. plain of the program, what is meant being told in the worlds that come.
-/
namespace Go.Proofs.YtnheeenkdjmhoaaDoor
open Go Go.Proofs Go.RowKit

/-- What the inside of an escape is told to mean. -/
def MeansW (w : World) (M : List UInt8 → Option (List UInt8)) (mk : ByteArray) (R : Nat ⊕ List UInt8) (n : Nat) : Prop :=
  (∀ (W : World) (_ : Below w.heap.size w W) (said : ByteArray) (x : List UInt8), said.size ≤ n → M (tl said) = some x → Calls Tryd.prog 48 #[.string mk, .string said] W fun e w' => e = .returned (.tuple #[.string (bs1 x), .bool true]) ∧ Below W.heap.size W w') ∧
  (∀ k, R = .inl k → ∀ (W : World) (_ : Below w.heap.size w W) (said : ByteArray), said.size ≤ n → Calls Tryd.prog 48 #[.string mk, .string said] W fun e w' => ∃ (x : ByteArray) (b : Bool), e = .returned (.tuple #[.string x, .bool b]) ∧ (M (tl said) = none → b = false) ∧ Below W.heap.size W w') ∧
  (∀ said x, M said = some x → x.length ≤ said.length)

set_option maxRecDepth 100000 in
set_option maxHeartbeats 8000000 in
theorem plainW_any (M : List UInt8 → Option (List UInt8)) (e : UInt8) (R : Nat ⊕ List UInt8) (w : World) (mk s : ByteArray) (hl : s.size ≤ 16000000) (hm : mk.size = 5) (he : (tl mk).getD 3 0 = e) (he1 : e.toNat < 128) (hM : MeansW w M mk R s.size) (hR : PlainR M e (tl s) 0 [] R) :
    Calls Tryd.prog 26 #[.string mk, .string s] w fun x w' => ((∃ n : Nat, R = .inl n ∧ x = .returned (.tuple #[.string { data := #[] }, .int .i64 n, .bool false])) ∨ (∃ out, R = .inr out ∧ x = .returned (.tuple #[.string (bs1 out), .int .i64 0, .bool true]))) ∧ Below w.heap.size w w' := by
  obtain ⟨B, hB⟩ : ∃ B, w.heap.size = B := ⟨_, rfl⟩
  have HB : Hid (w.heap.size = B) := hB
  obtain ⟨y, hy⟩ : ∃ y, e.toNat = y := ⟨_, rfl⟩
  have hmy : (mk[3]'(by omega)).toNat = y := by rw [← tl_getD mk 3 (by omega), he]; exact hy
  have HY : Hid (e.toNat = y) := hy
  have HM : Hid (MeansW w M mk R s.size) := hM
  have HR : Hid (PlainR M e (tl s) 0 [] R) := hR
  have he2 : y < 128 := by rw [← hy]; exact he1
  have HEN : Hid (tl (Utf8.encode (y : Int)) = [e]) := by
    show tl _ = _
    rw [encode_ascii he2, ← hy]; simp
  clear hM hR he hy he1
  go_enter Tryd.func26, Tryd.ntmps26
  go_wp2
  clear hB
  go_loopw [9] (fun nx wr => PlI M e w B s R nx wr) (fun _ wr => s.size - wr.iterPos (B + 1))
  case atStart =>
    refine ⟨0, 0, [], Nat.zero_le _, Nat.zero_le _, rfl, ?_, ?_, ?_, Nat.le_refl _, .inl ⟨Nat.le_refl _, by simpa using HR.out⟩⟩
    · have := (Lib.IsBuilderF.of (Lib.fresh_isBuilder 81 5 w)).alloc (.stringIter s 0)
      rw [HB.out] at this
      exact this
    · have := World.iter_heap (w.alloc (.cells #[.pointer none, .slice none 0 0] 81)) s 0
      simp only [World.size_alloc] at this
      rw [HB.out] at this
      exact this
    · have := HB.out
      exact ((Below.refl _ w).alloc (by omega) _).alloc (by simp; omega) _
  case round =>
    obtain ⟨pos, next, acc, hps, hns, rfl, hI, hit, hbe, hal, hst⟩ := hrel
    clear HR
    have hsz : B + 1 < wr.heap.size := (Array.getElem?_eq_some_iff.1 hit).1
    have HMs : Hid (wr.iterPos (B + 1) = pos) := by show World.iterPos _ _ = _; simp only [World.iterPos, hit]
    by_cases hp : pos < s.size
    · have hnx0 : ∀ ty, (Instr.next (.pointer (some ⟨B + 1, 0, none⟩)) true ty).run Tryd.prog wr = _ := fun ty => Lib.run_next_any_at wr (B + 1) s pos ty hit hp
      -- the rune, and how far it goes
      obtain ⟨k, hk⟩ : ∃ k, (Utf8.decode s pos).2 = k := ⟨_, rfl⟩
      obtain ⟨c, hc⟩ : ∃ c, (Utf8.decode s pos).1 = c := ⟨_, rfl⟩
      have hru : (k = 1 ∧ c = (s[pos]'hp).toNat ∧ c < 128) ∨ (128 ≤ c ∧ 1 ≤ k ∧ pos + k ≤ s.size ∧ ∀ j (hj : j < s.size), pos ≤ j → j < pos + k → 128 ≤ (s[j]'hj).toNat) := by
        by_cases ha : (s[pos]'hp).toNat < 128
        · have hd := decode_ascii s pos hp ha
          rw [hd] at hk hc
          exact .inl ⟨hk.symm, hc.symm, by rw [← hc]; exact ha⟩
        · have h1 := decode_high s pos hp (by omega)
          have h2 := decode_high_bytes s pos hp (by omega)
          rw [hk] at h1 h2; rw [hc] at h1
          exact .inr ⟨h1.1, h1.2, h2.1, h2.2⟩
      obtain ⟨W0, hW0⟩ : ∃ W0, wr.iterAt (B + 1) s (pos + k) = W0 := ⟨_, rfl⟩
      have hnx : ∀ ty, (Instr.next (.pointer (some ⟨B + 1, 0, none⟩)) true ty).run Tryd.prog wr = .ok (.tuple #[.bool true, .int .i64 pos, .int .i32 c]) W0 := by
        intro ty; rw [hnx0 ty, hc, hk, hW0]
      have hI2 : Lib.IsBuilderF 81 5 B B (Lib.byteCells acc) W0 := hW0 ▸ hI.iterAt hit (pos + k)
      have hit2 : W0.heap[B + 1]? = some (.stringIter s (pos + k)) := hW0 ▸ Lib.iterAt_heap wr (B + 1) s pos (pos + k) hit
      have hbe2 : Below B w W0 := hW0 ▸ Lib.below_iterAt hbe (k := B + 1) (by omega) s (pos + k)
      have hsz2 : B ≤ W0.heap.size := by rw [← hW0, Lib.iterAt_size]; omega
      have hk1 : 1 ≤ k ∧ pos + k ≤ s.size := by rcases hru with h | h <;> omega
      have HRU : Hid ((k = 1 ∧ c = (s[pos]'hp).toNat ∧ c < 128) ∨ (128 ≤ c ∧ 1 ≤ k ∧ pos + k ≤ s.size ∧ ∀ j (hj : j < s.size), pos ≤ j → j < pos + k → 128 ≤ (s[j]'hj).toNat)) := hru
      have HI2 : Hid (Lib.IsBuilderF 81 5 B B (Lib.byteCells acc) W0) := hI2
      have HH2 : Hid (W0.heap[B + 1]? = some (.stringIter s (pos + k))) := hit2
      have HB2 : Hid (Below B w W0) := hbe2
      clear hnx0 hk hc hru hW0 hI hit hbe hI2 hit2 hbe2
      by_cases hpn : pos < next
      · -- inside of an escape that was read
        have hpn' : decide ((pos : Int) < (next : Int)) = true := by simp; omega
        rcases hst with ⟨h1, _⟩ | ⟨_, h2, h3⟩
        · exact absurd hpn (by omega)
        · have HST : Hid ((tl s).getD (next - 1) 0 = e ∧ PlainR M e ((tl s).drop next) next acc R) := ⟨h2, h3⟩
          have HKN : Hid (pos + k ≤ next) := by
            show pos + k ≤ next
            rcases HRU.out with h | ⟨_, _, _, h4⟩
            · omega
            · by_cases hle : pos + k ≤ next
              · exact hle
              · have h5 := h4 (next - 1) (by omega) (by omega) (by omega)
                rw [← tl_getD s (next - 1) (by omega), h2, HY.out] at h5
                omega
          clear h2 h3
          go_wp2
          go_roundw
          case rel =>
            refine ⟨pos + k, next, acc, hk1.2, hns, rfl, HI2.out, HH2.out, HB2.out, hal, ?_⟩
            by_cases hq : pos + k = next
            · refine .inl ⟨by omega, ?_⟩
              have hnil : ((tl s).take next).drop next = [] := List.drop_eq_nil_of_le (by rw [List.length_take]; omega)
              rw [hq, hnil, List.append_nil]
              exact HST.out.2
            · exact .inr ⟨by have := HKN.out; omega, HST.out⟩
          case measure =>
            rw [HMs.out]
            simp only [World.iterPos, HH2.out]
            omega
      · have hpn' : decide ((pos : Int) < (next : Int)) = false := by simp; omega
        have hnp : next ≤ pos := by omega
        rcases hst with ⟨_, h3⟩ | ⟨h1, _⟩
        · have hdp : (tl s).drop pos = s[pos] :: (tl s).drop (pos + 1) := by
            rw [List.drop_eq_getElem_cons (by rw [tl_len]; exact hp), tl_get s pos hp]
          by_cases hce : c = y
          · -- an escape begins
            subst hce
            have hk' : k = 1 ∧ s[pos] = e := by
              rcases HRU.out with ⟨h4, h5, _⟩ | ⟨h4, _⟩
              · exact ⟨h4, UInt8.toNat_inj.1 (by rw [← h5, HY.out])⟩
              · omega
            obtain ⟨rfl, hse⟩ := hk'
            rw [hdp, hse] at h3
            have hat := h3.at_e
            have hct := cut47 W0 (s.extract (pos + 1) s.size) (Utf8.encode (c : Int)) e HEN.out (by rw [size_between s (Nat.le_refl _)]; unfold maxLen; omega)
            have e1 : tl (s.extract (pos + 1) s.size) = (tl s).drop (pos + 1) := by rw [tl_extract, ← tl_len, List.take_length]
            rw [e1] at hct
            have HAT : Hid ((¬ e ∈ (tl s).drop (pos + 1) ∧ R = .inl pos) ∨ ∃ a b, (tl s).drop (pos + 1) = a ++ e :: b ∧ ¬ e ∈ a ∧ ((M a = none ∧ R = .inl pos) ∨ ∃ x, M a = some x ∧ PlainR M e b (pos + a.length + 2) ((acc ++ ((tl s).take pos).drop next) ++ x) R)) := hat
            clear h3 hat hdp hse e1
            go_wp2_with (go_at_call 47; refine StopF.out ?_)
            refine StopF.mk (hct.mono ?_)
            rintro x W1 ⟨a, b, ok, rfl, hcr, n1, rfl⟩
            clear hct
            have hz0 : Below B w (W0.drewN n1) := HB2.out.trans ⟨rfl, rfl, rfl, Nat.le_refl _, fun _ _ => rfl⟩
            have HB3 : Hid (Below B w (W0.drewN n1)) := hz0
            have HI3 : Hid (Lib.IsBuilderF 81 5 B B (Lib.byteCells acc) (W0.drewN n1)) := builder_below HI2.out ⟨rfl, rfl, rfl, Nat.le_refl _, fun _ _ => rfl⟩
            have HH3 : Hid ((W0.drewN n1).heap[B + 1]? = some (.stringIter s (pos + 1))) := HH2.out
            have hsz3 : B ≤ (W0.drewN n1).heap.size := hsz2
            have hasz : a.size ≤ s.size := by
              have h1 : a.size ≤ ((tl s).drop (pos + 1)).length := by
                rw [← tl_len a]
                rcases hcr with ⟨_, _, h2, _⟩ | ⟨_, h2, _⟩
                · rw [h2]; exact Nat.le_refl _
                · rw [h2]; simp
              rw [List.length_drop, tl_len] at h1
              omega
            clear HI2 HH2 HB2 hz0
            generalize W0.drewN n1 = W1 at HB3 HI3 HH3 hsz3 ⊢
            have hfail : ok = false ∨ (M (tl a) = none) → R = .inl pos → StopF (Calls Tryd.prog 48 #[.string mk, .string a] W1 fun x w' => ∃ (q : ByteArray) (b : Bool), x = .returned (.tuple #[.string q, .bool b]) ∧ (ok = false ∨ b = false) ∧ Below W1.heap.size W1 w') := fun h1 h2 =>
              ⟨(HM.out.2.1 pos h2 W1 (HB.out ▸ HB3.out) a hasz).mono fun x w' ⟨q, b, h3, h4, h5⟩ => ⟨q, b, h3, h1.imp id h4, h5⟩⟩
            have hways : (R = .inl pos ∧ (ok = false ∨ M (tl a) = none)) ∨ (ok = true ∧ (tl s).drop (pos + 1) = tl a ++ e :: tl b ∧ ∃ x, M (tl a) = some x ∧ PlainR M e (tl b) (pos + a.size + 2) ((acc ++ ((tl s).take pos).drop next) ++ x) R) := by
              rcases hcr with ⟨h1, h2, h3, _⟩ | ⟨h1, h2, h3⟩
              · rcases HAT.out with ⟨_, h5⟩ | ⟨a', b', h5, _⟩
                · exact .inl ⟨h5, .inl h1⟩
                · exact absurd (by rw [h5]; simp) h2
              · rcases HAT.out with ⟨h4, _⟩ | ⟨a', b', h4, h5, h6⟩
                · exact absurd (by rw [h2]; simp) h4
                · obtain ⟨rfl, rfl⟩ := split_uniq h3 h5 (h2.symm.trans h4)
                  rcases h6 with ⟨h7, h8⟩ | ⟨x, h7, h8⟩
                  · exact .inl ⟨h8, .inr h7⟩
                  · exact .inr ⟨h1, h2, x, h7, by rw [← tl_len]; exact h8⟩
            clear hcr HAT
            rcases hways with ⟨hRi, hwy⟩ | ⟨rfl, hdr, xm, hMx, hPR⟩
            · have hf := (hfail hwy hRi).out
              clear hfail hwy
              go_wp2_with (go_at_call 48; refine StopF.out ?_)
              refine StopF.mk (hf.mono ?_)
              rintro x W2 ⟨q, b2, rfl, hob, hb2⟩
              have HB4 : Hid (Below B w W2) := HB3.out.trans (hb2.mono hsz3)
              clear hf hb2
              have hpk : (!ok || !b2) = true := by rcases hob with rfl | rfl <;> simp
              cases ok with
              | false =>
                go_wp2
                refine bodyPost_ret (v := .tuple #[.string { data := #[] }, .int .i64 pos, .bool false]) (by simp [results, Tryd.results26, go_sem]) rfl ?_
                exact ⟨.inl ⟨pos, hRi, rfl⟩, HB.out ▸ HB4.out⟩
              | true =>
                obtain rfl : b2 = false := by simpa using hpk
                go_wp2
                refine bodyPost_ret (v := .tuple #[.string { data := #[] }, .int .i64 pos, .bool false]) (by simp [results, Tryd.results26, go_sem]) rfl ?_
                exact ⟨.inl ⟨pos, hRi, rfl⟩, HB.out ▸ HB4.out⟩
            · have hg := HM.out.1 W1 (HB.out ▸ HB3.out) a xm hasz hMx
              have hxl : xm.length ≤ a.size := by rw [← tl_len]; exact HM.out.2.2 _ _ hMx
              have HDR : Hid ((tl s).drop (pos + 1) = tl a ++ e :: tl b) := hdr
              have HPR : Hid (PlainR M e (tl b) (pos + a.size + 2) ((acc ++ ((tl s).take pos).drop next) ++ xm) R) := hPR
              have hasb : pos + 1 + a.size + 1 ≤ s.size := by
                have := congrArg List.length hdr
                rw [List.length_drop, tl_len, List.length_append, tl_len] at this
                simp at this; omega
              have hd : (s.extract next pos).size = pos - next := size_between s (by omega)
              have hxz : (bs1 xm).size = xm.length := by rw [← tl_len, tl_bs1]
              clear hfail hMx hdr hPR
              go_wp2_with (go_at_call 48; refine StopF.out ?_)
              refine StopF.mk (hg.mono ?_)
              rintro x W2 ⟨rfl, hb2⟩
              clear hg
              have HB4 : Hid (Below B w W2) := HB3.out.trans (hb2.mono hsz3)
              have HI4 : Hid (Lib.IsBuilderF 81 5 B B (Lib.byteCells acc) W2) := builder_below HI3.out hb2
              have HH4 : Hid (W2.heap[B + 1]? = some (.stringIter s (pos + 1))) := (hb2.block (B + 1) (Array.getElem?_eq_some_iff.1 HH3.out).1).trans HH3.out
              have hsz4 : B ≤ W2.heap.size := by have := hb2.size; omega
              clear hb2 HB3 HI3 HH3
              go_wp2_with (go_at_call 37; refine StopF.out ?_)
              refine StopF.mk ((bws_any B B _ _ _ HI4.out (by rw [Lib.byteCells_length, hd]; omega) hsz4).mono ?_)
              rintro x W3 ⟨rfl, g1, b1, k1⟩
              have z1 : B ≤ W3.heap.size := by have := b1.size; omega
              go_wp2_with (go_at_call 37; refine StopF.out ?_)
              refine StopF.mk ((bws_any B B _ _ _ (.inr g1) (by rw [List.length_append, Lib.byteCells_length, cells_tl, Lib.byteCells_length, tl_len, hd, hxz]; omega) z1).mono ?_)
              rintro x W4 ⟨rfl, g2, b2, k2⟩
              have HH5 : Hid (W4.heap[B + 1]? = some (.stringIter s (pos + 1))) := k2.iter (k1.iter HH4.out (by omega)) (by omega)
              have HI5 : Hid (Lib.IsBuilderF 81 5 B B (Lib.byteCells (acc ++ ((tl s).take pos).drop next ++ xm)) W4) := by
                have e5 : Lib.byteCells (acc ++ ((tl s).take pos).drop next ++ xm) = (Lib.byteCells acc ++ Lib.strCells (s.extract next pos)) ++ Lib.strCells (bs1 xm) := by
                  rw [Lib.byteCells_append, Lib.byteCells_append, cells_tl, cells_tl, tl_extract, tl_bs1]
                show Lib.IsBuilderF _ _ _ _ _ _
                rw [e5]
                exact .inr g2
              have HB5 : Hid (Below B w W4) := (HB4.out.trans b1).trans b2
              clear g1 g2 b1 b2 k1 k2 HB4 HI4 HH4
              go_wp2
              go_roundw
              case rel =>
                refine ⟨pos + 1, pos + a.size + 2, _, by omega, by omega, by go_num, HI5.out, HH5.out, HB5.out, ?_, .inr ⟨by omega, ?_, ?_⟩⟩
                · rw [List.length_append, List.length_append, List.length_drop, List.length_take, tl_len]; omega
                · have e6 : pos + a.size + 2 - 1 = (pos + 1) + (tl a).length := by rw [tl_len]; omega
                  rw [e6, List.getD_eq_getElem?_getD, ← List.getElem?_drop, HDR.out, List.getElem?_append_right (Nat.le_refl _)]
                  simp
                · have e7 : (tl s).drop (pos + a.size + 2) = tl b := by
                    have e8 : pos + a.size + 2 = (pos + 1) + ((tl a ++ [e]).length) := by rw [List.length_append, tl_len]; simp; omega
                    rw [e8, ← List.drop_drop, HDR.out]
                    have e9 : tl a ++ e :: tl b = (tl a ++ [e]) ++ tl b := by simp
                    rw [e9, List.drop_left]
                  rw [e7]
                  exact HPR.out
              case measure =>
                rw [HMs.out]
                simp only [World.iterPos, HH5.out]
                omega
          · have hne : ((c : Int) == (y : Int)) = false := by simp; omega
            have hskip : ∀ x ∈ ((tl s).take (pos + k)).drop pos, x ≠ e := by
              intro x hx
              obtain ⟨i, hi, rfl⟩ := List.getElem_of_mem hx
              rw [List.length_drop, List.length_take, tl_len] at hi
              rw [List.getElem_drop, List.getElem_take, tl_get s (pos + i) (by omega)]
              intro he
              rcases HRU.out with ⟨h4, h5, _⟩ | ⟨_, _, _, h6⟩
              · have : i = 0 := by omega
                subst this
                apply hce
                rw [h5, ← HY.out, ← he]; rfl
              · have := h6 (pos + i) (by omega) (by omega) (by omega)
                rw [he, HY.out] at this
                omega
            have hsp : (tl s).drop pos = ((tl s).take (pos + k)).drop pos ++ (tl s).drop (pos + k) := by
              have e1 := List.take_append_drop (pos + k) (tl s)
              have e2 := congrArg (List.drop pos) e1
              rw [List.drop_append_of_le_length (by rw [List.length_take, tl_len]; omega)] at e2
              exact e2.symm
            rw [hsp] at h3
            have h4 := PlainR.skip _ hskip h3
            have hln : (((tl s).take (pos + k)).drop pos).length = k := by rw [List.length_drop, List.length_take, tl_len]; omega
            rw [hln, List.append_assoc] at h4
            have hjoin : ((tl s).take pos).drop next ++ ((tl s).take (pos + k)).drop pos = ((tl s).take (pos + k)).drop next := by
              have e1 : (tl s).take (pos + k) = (tl s).take pos ++ ((tl s).take (pos + k)).drop pos := by
                have := List.take_append_drop pos ((tl s).take (pos + k))
                rw [List.take_take, Nat.min_eq_left (by omega)] at this
                exact this.symm
              have e2 := congrArg (List.drop next) e1
              rw [List.drop_append_of_le_length (by rw [List.length_take, tl_len]; omega)] at e2
              exact e2.symm
            rw [hjoin] at h4
            have HP4 : Hid (PlainR M e ((tl s).drop (pos + k)) (pos + k) (acc ++ ((tl s).take (pos + k)).drop next) R) := h4
            clear h3 h4 hjoin hln hsp hskip hdp hce
            have hne2 : ((c : Int) != (y : Int)) = true := by simp only [bne, hne]; rfl
            have HNP : Hid (next ≤ pos) := hnp
            have HNE : Hid _ := hne
            clear hpn hnp hne
            go_wp2
            go_roundw
            case rel => exact ⟨pos + k, next, acc, hk1.2, hns, rfl, HI2.out, HH2.out, HB2.out, hal, .inl ⟨by have := HNP.out; omega, HP4.out⟩⟩
            case measure =>
              rw [HMs.out]
              simp only [World.iterPos, HH2.out]
              omega
        · exact absurd h1 (by omega)
    · have hnx : ∀ ty, (Instr.next (.pointer (some ⟨B + 1, 0, none⟩)) true ty).run Tryd.prog wr = _ := fun ty => Lib.run_next_end_at wr (B + 1) s pos ty hit hp
      have hpe : pos = s.size := by omega
      rcases hst with ⟨hnp, h3⟩ | ⟨h1, _⟩
      · rw [hpe, ← tl_len, List.drop_length, List.take_length] at h3
        have hRe := h3.nil
        have hd : (s.extract next s.size).size = s.size - next := size_between s (Nat.le_refl _)
        have hsz2 : B ≤ wr.heap.size := by omega
        have HRe : Hid (R = .inr (acc ++ (tl s).drop next)) := hRe
        have HI2 : Hid (Lib.IsBuilderF 81 5 B B (Lib.byteCells acc) wr) := hI
        have HB2 : Hid (Below B w wr) := hbe
        clear h3 hRe hpe hI hbe
        go_wp2_with (go_at_call 37; refine StopF.out ?_)
        refine StopF.mk ((bws_any B B _ _ _ HI2.out (by rw [Lib.byteCells_length, hd]; omega) hsz2).mono ?_)
        rintro x W1 ⟨rfl, g1, b1, k1⟩
        have z1 : B ≤ W1.heap.size := by have := b1.size; omega
        have g1' : Lib.IsBuilderF 81 5 B B (Lib.byteCells (acc ++ (tl s).drop next)) W1 := by
          have e1 : tl (s.extract next s.size) = (tl s).drop next := by rw [tl_extract, ← tl_len, List.take_length]
          rw [Lib.byteCells_append, ← e1, ← cells_tl]
          exact .inr g1
        go_wp2_with (go_at_call 39; refine StopF.out ?_)
        refine StopF.mk ((bst_any B B _ _ g1' z1).mono ?_)
        rintro x W2 ⟨rfl, g2, b2, k2⟩
        go_wp2
        refine bodyPost_ret (v := .tuple #[.string (bs1 (acc ++ (tl s).drop next)), .int .i64 0, .bool true]) (by simp [results, Tryd.results26, go_sem, bs1]) rfl ?_
        exact ⟨.inr ⟨_, HRe.out, rfl⟩, HB.out ▸ (HB2.out.trans b1).trans b2⟩
      · exact absurd h1 (by omega)
end Go.Proofs.YtnheeenkdjmhoaaDoor
