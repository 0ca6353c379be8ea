import Derived.Test.YtnheeenkdjmhoaaDoorIe
import Derived.Test.YtnheeenkdjmhoaaDoorIg
/-
  DERIVED. The document's Plain.
-/
namespace Go.Proofs.YtnheeenkdjmhoaaDoor
open Go Go.Proofs Go.RowKit Go.Sort

structure PrI (w : World) (B : Nat) (wr : World) (bv : Value) (acc : List UInt8) : Prop where
  bel : Below B w wr
  fl : ResN B wr
  row : wr.ownsRow (B + 1) 5 1 bv acc.length (Lib.byteCells acc)
theorem PrI.on {w : World} {B : Nat} {wr W : World} {bv : Value} {acc : List UInt8} (h : PrI w B wr bv acc) (hb : Below wr.heap.size wr W) : PrI w B W bv acc :=
  ⟨h.bel.trans (hb.mono (Nat.le_of_lt h.fl.lt)), h.fl.on hb, ownsRow_below h.row hb (Nat.le_refl _)⟩
theorem PrI.snoc {w : World} {B : Nat} {wr W2 : World} {bv : Value} {acc : List UInt8} (h : PrI w B wr bv acc) {c : UInt8} {o : Obj} {g cap : Nat} (hown : W2.ownsRow (B + 1) 5 1 (.slice (some ⟨g, 0, none⟩) (acc.length + 1) cap) (acc.length + 1) (Lib.byteCells acc ++ [.int .u8 (c.toNat : Int)])) (hgr : (wr.alloc o).grownBy W2 bv.ownBlock) :
    PrI w B W2 (.slice (some ⟨g, 0, none⟩) (acc.length + 1) cap) (acc ++ [c]) := by
  have ha : Below wr.heap.size wr (wr.alloc o) := (Below.refl _ _).alloc (Nat.le_refl _) _
  have hi := h.on ha
  have hBlt := hi.fl.lt
  refine ⟨hi.bel.grown hgr (by omega) (fun j hj => by have := (hi.row.lt j hj).1; omega), hi.fl.of (hgr.block B hBlt fun hj => by have := (hi.row.lt B hj.symm).1; omega), ?_⟩
  rw [Lib.byteCells_append, List.length_append]
  exact hown
theorem below_drewN (w : World) (m : Nat) : Below w.heap.size w (w.drewN m) := ⟨rfl, rfl, rfl, Nat.le_refl _, fun _ _ => rfl⟩
def PrRel (M : List UInt8 → Option (List UInt8)) (e : UInt8) (w : World) (B : Nat) (s : ByteArray) (R : Nat ⊕ List UInt8) (bv iv : Value) (wr : World) : Prop :=
  ∃ (pos : Nat) (acc : List UInt8), pos ≤ s.size ∧ iv = .int .i64 pos ∧ PrI w B wr bv acc ∧ PlainR M e ((tl s).drop pos) pos acc R ∧ acc.length ≤ pos
def JrI (W : World) (s : ByteArray) (e : UInt8) (pos : Nat) (jv : Value) (wx : World) : Prop :=
  ∃ j : Nat, pos + 1 ≤ j ∧ j ≤ s.size ∧ jv = .int .i64 j ∧ (∀ t, pos + 1 ≤ t → t < j → (tl s).getD t 0 ≠ e) ∧ ∃ m, wx = W.drewN m
theorem drew3 (w : World) (a b : Nat) : ∃ m, (w.drewN a).drewN b = w.drewN m := ⟨_, by rw [World.drewN_drewN]⟩
def KrI (w : World) (B H : Nat) (v : Value) (acc x : List UInt8) (bv kv : Value) (wx : World) : Prop :=
  ∃ k : Nat, k ≤ x.length ∧ kv = .int .i64 k ∧ PrI w B wx bv (acc ++ x.take k) ∧ wx.ownsRow H 5 1 v x.length (Lib.byteCells x) ∧ (∀ g, bv.ownBlock = some g → v.ownBlock ≠ some g)
theorem PlainR.at_byte {M : List UInt8 → Option (List UInt8)} {e c : UInt8} {r : List UInt8} {pos : Nat} {out : List UInt8} {R : Nat ⊕ List UInt8} (h : PlainR M e (c :: r) pos out R) (hc : c ≠ e) : PlainR M e r (pos + 1) (out ++ [c]) R := by
  cases h with
  | byte _ _ _ _ _ _ h => exact h
  | lone => exact absurd rfl hc
  | bad => exact absurd rfl hc
  | esc => exact absurd rfl hc

theorem no_mem {l : List UInt8} {e : UInt8} {p j : Nat} (hj : j ≤ l.length) (h : ∀ t, p ≤ t → t < j → l.getD t 0 ≠ e) : ¬ e ∈ (l.take j).drop p := by
  intro hm
  obtain ⟨i, hi, hie⟩ := List.getElem_of_mem hm
  rw [List.length_drop, List.length_take] at hi
  refine h (p + i) (by omega) (by omega) ?_
  rw [List.getD_eq_getElem?_getD, List.getElem?_eq_getElem (by omega)]
  rw [List.getElem_drop, List.getElem_take] at hie
  exact hie
theorem cut_at {l : List UInt8} {p j : Nat} (hp : p ≤ j) (hj : j < l.length) : l.drop p = (l.take j).drop p ++ l[j] :: l.drop (j + 1) := by
  have h1 := List.take_append_drop j l
  have h2 : l.drop p = (l.take j ++ l.drop j).drop p := by rw [h1]
  rw [h2, List.drop_append_of_le_length (by rw [List.length_take]; omega), List.drop_eq_getElem_cons hj]

set_option maxRecDepth 100000 in
set_option maxHeartbeats 8000000 in
theorem plainR_any (w : World) (mk s : ByteArray) (hl : s.size ≤ 16000000) (o : Option (Int × Int)) (out : List UInt8) (h : PlO (tl mk) (tl s) o out) :
    Calls Tryd.prog 13 #[.string mk, .string s] w fun e w' => ∃ u, e = .returned (.tuple #[.string (bs1 out), u]) ∧ RErr w' u o ∧ Below w.heap.size w w' := by
  obtain ⟨i0, hi, hz0, hz1, hz2⟩ := info_parts info5s
  obtain ⟨B, hB⟩ : ∃ B, w.heap.size = B := ⟨_, rfl⟩
  have HB : Hid (w.heap.size = B) := hB
  obtain ⟨W1, hW1⟩ : ∃ W1, w.alloc (.cells #[.slice none 0 0, .int .i64 0] 44) = W1 := ⟨_, rfl⟩
  have hb1 : Below B w W1 := hB ▸ hW1 ▸ (Below.refl _ _).alloc (Nat.le_refl _) _
  have hr1 : ResN B W1 := by rw [← hW1, ← hB]; exact ⟨by simp, by simp, fun j => by simp, _, _, heap_alloc_new w _⟩
  have HB1 : Hid (Below B w W1) := hb1
  have HR1 : Hid (ResN B W1) := hr1
  clear hb1 hr1
  have hmk := marksR_any W1 mk
  rw [hB]
  go_enter Tryd.func13, Tryd.ntmps13
  go_wp2_with (go_at_call 28; refine StopF.out ?_)
  clear hW1
  refine StopF.mk (hmk.mono ?_)
  rintro e0 W2 ⟨b, rfl, hbm, hb2⟩
  clear hmk
  have HI : Hid (PrI w B W2 (.slice none 0 0) []) := ⟨HB1.out.trans (hb2.mono (Nat.le_of_lt HR1.out.lt)), HR1.out.on hb2, World.ownsRow_nil _ _ _ _⟩
  clear hb2 HB1 HR1
  by_cases hK : MarksOK (tl mk)
  · obtain rfl : b = true := hbm.2 hK
    obtain ⟨e, he⟩ : ∃ e, (tl mk).getD 3 0 = e := ⟨_, rfl⟩
    have hm5 : mk.size = 5 := by rw [← tl_len]; exact hK.1
    obtain ⟨y, hy⟩ : ∃ y, e.toNat = y := ⟨_, rfl⟩
    have hm3 : 3 < mk.size := by omega
    have hm3i : (3 : Int) < (mk.size : Int) := by omega
    have hmy : (mk[3]'hm3).toNat = y := by rw [← tl_getD mk 3 hm3, he]; exact hy
    obtain ⟨R, hR, hRo⟩ : ∃ R, PlainR (meanO (tl mk)) e (tl s) 0 [] R ∧ ((∀ n, R = .inl n → o = some ((n : Int), 225) ∧ out = []) ∧ (∀ q, R = .inr q → o = none ∧ out = q)) := by
      cases h with
      | hd hn => exact absurd hK hn
      | bad n _ hR => exact ⟨_, he ▸ hR, fun m hm => by cases hm; exact ⟨rfl, rfl⟩, fun q hq => by cases hq⟩
      | good q _ hR => exact ⟨_, he ▸ hR, fun m hm => (by cases hm), fun q hq => by cases hq; exact ⟨rfl, rfl⟩⟩
    have HRo : Hid ((∀ n, R = .inl n → o = some ((n : Int), 225) ∧ out = []) ∧ (∀ q, R = .inr q → o = none ∧ out = q)) := hRo
    have HR : Hid (PlainR (meanO (tl mk)) e (tl s) 0 [] R) := hR
    have HY : Hid (e.toNat = y) := hy
    have HM5 : Hid (mk.size = 5) := hm5
    clear h hbm hK he hR hRo hy hm5
    go_wp2
    go_loopw [6, 7] (fun bv iv wr => PrRel (meanO (tl mk)) e w B s R bv iv wr) (fun _ i _ => s.size - (intOf i).toNat)
    case atStart => exact ⟨0, [], Nat.zero_le _, rfl, HI.out, HR.out, Nat.le_refl _⟩
    case round =>
      obtain ⟨pos, acc, hps, rfl, hI, h3, hal⟩ := hrel
      clear HI HR
      obtain ⟨ao, cap, rfl⟩ := own_slice hI.row
      have HI : Hid (PrI w B wr (.slice ao acc.length cap) acc) := hI
      clear hI
      by_cases hp : pos < s.size
      · have hdp : (tl s).drop pos = s[pos] :: (tl s).drop (pos + 1) := by
          rw [List.drop_eq_getElem_cons (by rw [tl_len]; exact hp), tl_get s pos hp]
        rw [hdp] at h3
        clear hdp
        obtain ⟨cn, hcn⟩ : ∃ cn, (s[pos]'hp).toNat = cn := ⟨_, rfl⟩
        by_cases hce : s[pos]'hp = e
        · obtain rfl : cn = y := by rw [← hcn, hce]; exact HY.out
          rw [hce] at h3
          have hat := h3.at_e
          have HAT : Hid ((¬ e ∈ (tl s).drop (pos + 1) ∧ R = .inl pos) ∨ ∃ a b, (tl s).drop (pos + 1) = a ++ e :: b ∧ ¬ e ∈ a ∧ ((meanO (tl mk) a = none ∧ R = .inl pos) ∨ ∃ x, meanO (tl mk) a = some x ∧ PlainR (meanO (tl mk)) e b (pos + a.length + 2) (acc ++ x) R)) := hat
          clear h3 hat hce
          go_wp2
          go_quiet (fail)
          have HI2 : Hid (PrI w B (wr.drewN nq) (.slice ao acc.length cap) acc) := HI.out.on (below_drewN _ _)
          generalize wr.drewN nq = W3 at HI2 ⊢
          clear HI hcn
          go_wp2
          go_loopw [8] (fun jv wx => JrI W3 s e pos jv wx) (fun j _ => s.size - (intOf j).toNat)
          case atStart => exact ⟨pos + 1, Nat.le_refl _, hp, by go_num, fun t h1 h2 => absurd h1 (by omega), 0, rfl⟩
          case round =>
            obtain ⟨j, hj1, hj2, rfl, hno, m, rfl⟩ := hrel
            have HNO : Hid (∀ t, pos + 1 ≤ t → t < j → (tl s).getD t 0 ≠ e) := hno
            clear hno
            by_cases hjs : j < s.size
            · obtain ⟨cj, hcj⟩ : ∃ cj, (s[j]'hjs).toNat = cj := ⟨_, rfl⟩
              have t4 : decide ((j : Int) < (s.size : Int)) = true := by simp; omega
              by_cases hje : s[j]'hjs = e
              · obtain rfl : cj = cn := by rw [← hcj, hje]; exact HY.out
                have hsp : (tl s).drop (pos + 1) = ((tl s).take j).drop (pos + 1) ++ e :: (tl s).drop (j + 1) := by
                  have := cut_at (l := tl s) hj1 (by rw [tl_len]; exact hjs)
                  rw [tl_get s j hjs, hje] at this
                  exact this
                have hnm := no_mem (l := tl s) (by rw [tl_len]; exact hj2) HNO.out
                obtain ⟨a, ha⟩ : ∃ a, s.extract (pos + 1) j = a := ⟨_, rfl⟩
                have hta : tl a = ((tl s).take j).drop (pos + 1) := by rw [← ha, tl_extract]
                have hasz : a.size = j - (pos + 1) := by rw [← ha, size_between s hj2]
                rw [← hta] at hsp hnm
                have HW : Hid ((meanO (tl mk) (tl a) = none ∧ R = .inl pos) ∨ ∃ x, meanO (tl mk) (tl a) = some x ∧ PlainR (meanO (tl mk)) e ((tl s).drop (j + 1)) (j + 1) (acc ++ x) R) := by
                  rcases HAT.out with ⟨h4, _⟩ | ⟨a', b', h4, h5, h6⟩
                  · exact absurd (by rw [hsp]; simp) h4
                  · obtain ⟨h7, h8⟩ := split_uniq hnm h5 (hsp.symm.trans h4)
                    subst h7; subst h8
                    rcases h6 with h6 | ⟨x, h6, h9⟩
                    · exact .inl h6
                    · refine .inr ⟨x, h6, ?_⟩
                      have : pos + (tl a).length + 2 = j + 1 := by rw [tl_len]; omega
                      rw [this] at h9
                      exact h9
                have hs := fun W => said_any W mk a HM5.out (by omega)
                have HS : Hid (∀ W, Calls Tryd.prog 33 #[.string mk, .string a] W (SaidR W (meanO (tl mk) (tl a)))) := hs
                have j1 : (pos : Int) + 1 ≤ (j : Int) := by omega
                have j2 : (j : Int) ≤ (s.size : Int) := by omega
                have j3 : ((j : Int) == (s.size : Int)) = false := by simp; omega
                clear hs hta hasz hsp hnm hje HNO HAT
                go_wp2
                go_quiet (fail)
                have HI4 : Hid (PrI w B ((W3.drewN m).drewN nq) (.slice ao acc.length cap) acc) := (HI2.out.on (below_drewN _ _)).on (below_drewN _ _)
                generalize (W3.drewN m).drewN nq = W4 at HI4 ⊢
                clear HI2
                go_wp2_with (go_at_call 33; refine StopF.out ?_)
                refine StopF.mk ((HS.out W4).mono ?_)
                rintro e' W5 ⟨hsr, hb5⟩
                have HI5 : Hid (PrI w B W5 (.slice ao acc.length cap) acc) := HI4.out.on hb5
                rcases hsr with ⟨x, v, hMx, rfl, hrow⟩ | ⟨hMn, rfl⟩
                · have HP : Hid (PlainR (meanO (tl mk)) e ((tl s).drop (j + 1)) (j + 1) (acc ++ x) R) := by
                    rcases HW.out with ⟨h1, _⟩ | ⟨x', h1, h2⟩
                    · rw [hMx] at h1; cases h1
                    · rw [hMx] at h1; cases h1; exact h2
                  have hxl : x.length ≤ j - (pos + 1) := by
                    have := meanO_len _ _ _ hMx
                    rw [tl_len, ← ha, size_between s hj2] at this; exact this
                  obtain ⟨xa, xc, rfl⟩ := own_slice hrow
                  have HX : Hid (W5.ownsRow W4.heap.size 5 1 (.slice xa x.length xc) x.length (Lib.byteCells x)) := hrow
                  have HSEP : Hid (∀ g, (Value.slice ao acc.length cap).ownBlock = some g → (Value.slice xa x.length xc).ownBlock ≠ some g) := by
                    intro g h1 h2
                    have h4 := (HI4.out.row.lt g h1).2
                    have h5 := (hrow.lt g h2).1
                    omega
                  have H4 : Hid (B < W4.heap.size) := HI4.out.fl.lt
                  clear hMx hrow hb5 HI4 HW HS ha
                  go_wp2
                  go_loopw [6, 11] (fun bv kv wx => KrI w B W4.heap.size (.slice xa x.length xc) acc x bv kv wx) (fun _ k _ => x.length - (intOf k).toNat)
                  case atStart => exact ⟨0, Nat.zero_le _, rfl, by simpa using HI5.out, HX.out, HSEP.out⟩
                  case round =>
                    obtain ⟨k, hk, rfl, hI6, hX6, hS6⟩ := hrel
                    clear HI5 HX HSEP
                    obtain ⟨bo, bc, rfl⟩ := own_slice hI6.row
                    obtain ⟨ac2, hac2⟩ : ∃ l, acc ++ x.take k = l := ⟨_, rfl⟩
                    have hal2 : ac2.length = acc.length + k := by rw [← hac2, List.length_append, List.length_take]; omega
                    rw [hac2] at hI6 hS6
                    rw [hac2]
                    have HAC : Hid (acc ++ x.take k = ac2) := hac2
                    have HI6 : Hid (PrI w B wr (.slice bo ac2.length bc) ac2) := hI6
                    have HX6 : Hid (wr.ownsRow W4.heap.size 5 1 (.slice xa x.length xc) x.length (Lib.byteCells x)) := hX6
                    have HS6 : Hid (∀ g, (Value.slice bo ac2.length bc).ownBlock = some g → (Value.slice xa x.length xc).ownBlock ≠ some g) := hS6
                    have HA2 : Hid (ac2.length = acc.length + k) := hal2
                    have hal3 : ac2.length ≤ 16000000 := by omega
                    clear hI6 hX6 hS6 hac2 hal2
                    by_cases hkx : k < x.length
                    · obtain ⟨gx, rfl⟩ := own_pos2 HX6.out (by omega)
                      obtain ⟨cx, hcx⟩ : ∃ cx, (x[k]'hkx).toNat = cx := ⟨_, rfl⟩
                      have hcell : wr.cell? ⟨gx, k, none⟩ = some (.int .u8 (cx : Int)) := by
                        have := HX6.out.cellAt k (by omega)
                        rw [this, Lib.byteCells, List.getElem?_map, List.getElem?_eq_getElem hkx, ← hcx]; rfl
                      have HO : Hid (wr.ownsRow (B + 1) 5 1 (.slice bo ac2.length bc) ac2.length (Lib.byteCells ac2)) := HI6.out.row
                      have hbs : B + 1 ≤ wr.heap.size := HI6.out.fl.lt
                      go_wp2_with (first | (at_builtin; refine wpList_append_lies _ rfl _ _ 22 rfl (B + 1) 5 i0 _ 1 1 Tryd.underlying22 hi hz0 hz1 hz2 rfl (by decide) (.slice bo ac2.length bc) ac2.length (Lib.byteCells ac2) rfl (World.ownsRow.alloc HO.out _) ⟨wr.heap.size, 0, none⟩ 1 1 [.int .u8 (cx : Int)] rfl rfl (cell_one_new _ _ _) (by intro u hu; simp at hu; subst hu; rfl) (by decide) (by unfold maxLen; omega) (by omega) (by simp; omega) (wr.heap.size + 1) (by simp) ?_) | fail)
                      intro g cp W7 hown7 hgrow7 hat7 hlt7
                      have HI7 : Hid (PrI w B W7 (.slice (some ⟨g, 0, none⟩) (ac2.length + 1) cp) (ac2 ++ [x[k]'hkx])) := HI6.out.snoc (by rw [hcx]; exact hown7) hgrow7
                      have hgx : gx < wr.heap.size := cell_lt hcell
                      have HX7 : Hid (W7.ownsRow W4.heap.size 5 1 (.slice (some ⟨gx, 0, none⟩) x.length xc) x.length (Lib.byteCells x)) := (World.ownsRow.alloc HX6.out _).kept hgrow7 (.inr fun hh => HS6.out gx hh.symm rfl)
                      have HS7 : Hid (∀ g', (Value.slice (some ⟨g, 0, none⟩) (ac2.length + 1) cp).ownBlock = some g' → (Value.slice (some ⟨gx, 0, none⟩) x.length xc).ownBlock ≠ some g') := by
                        intro g' h1 h2
                        have e1 : g = g' := by simpa [Value.ownBlock] using h1
                        have e2 : gx = g' := by simpa [Value.ownBlock] using h2
                        subst e1; subst e2
                        rcases hat7 with h5 | h5
                        · exact HS6.out _ h5 rfl
                        · omega
                      clear hown7 hgrow7 hat7 hlt7 hcell
                      go_wp2
                      go_roundw
                      case rel =>
                        have htk : acc ++ x.take (k + 1) = ac2 ++ [x[k]'hkx] := by rw [← HAC.out, List.append_assoc, List.take_succ_eq_append_getElem hkx]
                        exact ⟨k + 1, by omega, by go_num, by rw [htk]; exact HI7.out, HX7.out, HS7.out⟩
                      case measure => simp [intOf]; omega
                    · have hke : k = x.length := by omega
                      have HI8 : Hid (PrI w B wr (.slice bo ac2.length bc) (acc ++ x)) := by
                        have h1 := HAC.out
                        rw [hke, List.take_length] at h1
                        show PrI _ _ _ _ _
                        rw [h1]; exact HI6.out
                      clear hke
                      go_wp2
                      go_roundw
                      case rel => exact ⟨j + 1, acc ++ x, by omega, by go_num, HI8.out, HP.out, by rw [List.length_append]; omega⟩
                      case measure => simp [intOf]; omega
                · have hRi : R = .inl pos := by
                    rcases HW.out with ⟨_, h1⟩ | ⟨x', h1, _⟩
                    · exact h1
                    · rw [hMn] at h1; cases h1
                  obtain ⟨rfl, rfl⟩ := HRo.out.1 pos hRi
                  clear hRi hMn HW HS hb5 HI4
                  go_wp2_with (go_at_call 29; refine StopF.out ?_)
                  refine StopF.mk ((no_any (pos : Int) 225 _).mono ?_)
                  rintro e' W9 ⟨u, rfl, hu, hb9⟩
                  obtain ⟨ua, un, up, uz, rfl⟩ := hu.form
                  have hr9 := HI5.out.fl.on hb9
                  have HU : Hid (RErr W9 (.agg #[.slice ua un up, .int .i64 uz]) (some ((pos : Int), 225))) := hu
                  have HB9 : Hid (Below B w W9) := HI5.out.bel.trans (hb9.mono (Nat.le_of_lt HI5.out.fl.lt))
                  have HR9 : Hid (ResN B W9) := hr9
                  obtain ⟨x0, x1, xf, xt⟩ := hr9
                  clear hu hb9
                  go_wp2
                  refine bodyPost_ret (v := .tuple #[.string { data := #[] }, .agg #[.slice ua un up, .int .i64 uz]]) (by simp [results, Tryd.results13, go_sem, x0, x1]) rfl ?_
                  exact ⟨_, rfl, HU.out.put HR9.out _ _, (HB9.out.setCell (p := ⟨B, 0, none⟩) (Nat.le_refl _) _).setCell (p := ⟨B, 1, none⟩) (Nat.le_refl _) _⟩
              · have hne : ((cj : Int) == (cn : Int)) = false := by
                  have : ¬ cj = cn := fun hh => hje (UInt8.toNat_inj.1 (by rw [hcj, hh]; exact HY.out.symm))
                  simp; omega
                have HJN : Hid ((tl s).getD j 0 ≠ e) := by show _ ≠ _; rw [tl_getD s j hjs]; exact hje
                clear hje
                go_wp2
                go_quiet (fail)
                go_wp2
                go_roundw
                case rel => exact ⟨j + 1, by omega, by omega, by go_num, fun t h1 h2 => by
                  by_cases ht : t < j
                  · exact HNO.out t h1 ht
                  · have : t = j := by omega
                    subst this; exact HJN.out, by first | exact ⟨_, rfl⟩ | exact drew3 _ _ _⟩
                case measure => simp [intOf]; omega
            · skip
              have hje : j = s.size := by omega
              have hnm := no_mem (l := tl s) (by rw [tl_len]; exact hj2) HNO.out
              have hRi : R = .inl pos := by
                rcases HAT.out with ⟨_, h1⟩ | ⟨a', b', h4, _, _⟩
                · exact h1
                · rw [hje, ← tl_len, List.take_length, h4] at hnm; exact absurd (by simp) hnm
              obtain ⟨rfl, rfl⟩ := HRo.out.1 pos hRi
              have t4 : decide ((j : Int) < (s.size : Int)) = false := by simp; omega
              have j3 : ((j : Int) == (s.size : Int)) = true := by simp; omega
              clear hRi hnm HAT HNO hje
              go_wp2
              go_quiet (fail)
              have HI4 : Hid (PrI w B ((W3.drewN m).drewN nq) (.slice ao acc.length cap) acc) := (HI2.out.on (below_drewN _ _)).on (below_drewN _ _)
              generalize (W3.drewN m).drewN nq = W4 at HI4 ⊢
              clear HI2
              go_wp2_with (go_at_call 29; refine StopF.out ?_)
              refine StopF.mk ((no_any (pos : Int) 225 _).mono ?_)
              rintro e' W9 ⟨u, rfl, hu, hb9⟩
              obtain ⟨ua, un, up, uz, rfl⟩ := hu.form
              have hr9 := HI4.out.fl.on hb9
              have HU : Hid (RErr W9 (.agg #[.slice ua un up, .int .i64 uz]) (some ((pos : Int), 225))) := hu
              have HB9 : Hid (Below B w W9) := HI4.out.bel.trans (hb9.mono (Nat.le_of_lt HI4.out.fl.lt))
              have HR9 : Hid (ResN B W9) := hr9
              obtain ⟨x0, x1, xf, xt⟩ := hr9
              clear hu hb9
              go_wp2
              refine bodyPost_ret (v := .tuple #[.string { data := #[] }, .agg #[.slice ua un up, .int .i64 uz]]) (by simp [results, Tryd.results13, go_sem, x0, x1]) rfl ?_
              exact ⟨_, rfl, HU.out.put HR9.out _ _, (HB9.out.setCell (p := ⟨B, 0, none⟩) (Nat.le_refl _) _).setCell (p := ⟨B, 1, none⟩) (Nat.le_refl _) _⟩
        · have h3' := h3.at_byte hce
          have HP : Hid (PlainR (meanO (tl mk)) e ((tl s).drop (pos + 1)) (pos + 1) (acc ++ [s[pos]'hp]) R) := h3'
          have hne : ((cn : Int) == (y : Int)) = false := by
            have : ¬ cn = y := fun hh => hce (UInt8.toNat_inj.1 (by rw [hcn, hh]; exact HY.out.symm))
            simp; omega
          clear h3 h3' hce
          go_wp2
          go_quiet (fail)
          have HI2 : Hid (PrI w B (wr.drewN nq) (.slice ao acc.length cap) acc) := HI.out.on (below_drewN _ _)
          generalize wr.drewN nq = W3 at HI2 ⊢
          clear HI
          have HO : Hid (W3.ownsRow (B + 1) 5 1 (.slice ao acc.length cap) acc.length (Lib.byteCells acc)) := HI2.out.row
          have hbs : B + 1 ≤ W3.heap.size := HI2.out.fl.lt
          go_wp2_with (first | (at_builtin; refine wpList_append_lies _ rfl _ _ 22 rfl (B + 1) 5 i0 _ 1 1 Tryd.underlying22 hi hz0 hz1 hz2 rfl (by decide) (.slice ao acc.length cap) acc.length (Lib.byteCells acc) rfl (World.ownsRow.alloc HO.out _) ⟨W3.heap.size, 0, none⟩ 1 1 [.int .u8 (cn : Int)] rfl rfl (cell_one_new _ _ _) (by intro u hu; simp at hu; subst hu; rfl) (by decide) (by unfold maxLen; omega) (by omega) (by simp; omega) (W3.heap.size + 1) (by simp) ?_) | fail)
          intro g cp W4 hown4 hgrow4 hat4 hlt4
          have HI4 : Hid (PrI w B W4 (.slice (some ⟨g, 0, none⟩) (acc.length + 1) cp) (acc ++ [s[pos]'hp])) := HI2.out.snoc (by rw [hcn]; exact hown4) hgrow4
          clear hown4 hgrow4 hat4 hlt4
          go_wp2
          go_roundw
          case rel => exact ⟨pos + 1, acc ++ [s[pos]'hp], by omega, by go_num, HI4.out, HP.out, by simp; omega⟩
          case measure => simp [intOf]; omega
      · skip
        have hpe : pos = s.size := by omega
        rw [hpe, ← tl_len, List.drop_length] at h3
        have hRi := h3.nil
        obtain ⟨rfl, hq⟩ := HRo.out.2 acc hRi
        obtain rfl : acc = out := hq.symm
        have hz : (bs1 acc).size = acc.length := by rw [← tl_len, tl_bs1]
        have hcv := (own_bs (ownsRow_below HI.out.row (below_drewN wr 1) (Nat.le_refl _))).conv (cap := cap)
        rw [hz] at hcv
        have hcv : (convert 22 9 (.slice ao acc.length cap)).run Tryd.prog wr.drew = .ok (.string (bs1 acc)) wr.drew := hcv
        clear h3 hRi hpe
        go_wp2
        go_region_law (go_simp; go_at_call 32; refine (none_any _).mono ?_; rintro e9 W9 ⟨rfl, hb9⟩; have hb8 : Below wr.heap.size wr W9 := ⟨hb9.os, hb9.tape, hb9.output, hb9.size, hb9.block⟩; have hcv9 := (own_bs (ownsRow_below HI.out.row hb8 (Nat.le_refl _))).conv (cap := cap); rw [hz] at hcv9; have HI9 : Hid (PrI w B W9 (.slice ao acc.length cap) acc) := HI.out.on hb8; have hfl9 := HI9.out.fl; obtain ⟨x0, x1, xf, xt⟩ := hfl9; clear hb8 hb9)
        all_goals
          go_wp2
          refine bodyPost_ret (v := .tuple #[.string (bs1 acc), .agg #[.slice none 0 0, .int .i64 0]]) (by simp [results, Tryd.results13, go_sem, x0, x1]) rfl ?_
          exact ⟨_, rfl, rfl, (HI9.out.bel.setCell (p := ⟨B, 0, none⟩) (Nat.le_refl _) _).setCell (p := ⟨B, 1, none⟩) (Nat.le_refl _) _⟩
  · obtain rfl : b = false := by
      cases b with
      | false => rfl
      | true => exact absurd (hbm.1 rfl) hK
    obtain ⟨rfl, rfl⟩ : o = some (0, 220) ∧ out = [] := by
      cases h with
      | hd _ => exact ⟨rfl, rfl⟩
      | bad n hh _ => exact absurd hh hK
      | good q hh _ => exact absurd hh hK
    clear h hbm hK
    go_wp2_with (go_at_call 29; refine StopF.out ?_)
    refine StopF.mk ((no_any 0 220 W2).mono ?_)
    rintro e' W9 ⟨u, rfl, hu, hb9⟩
    obtain ⟨ua, un, up, uz, rfl⟩ := hu.form
    have hr9 := HI.out.fl.on hb9
    have HU : Hid (RErr W9 (.agg #[.slice ua un up, .int .i64 uz]) (some (0, 220))) := hu
    have HB9 : Hid (Below B w W9) := HI.out.bel.trans (hb9.mono (Nat.le_of_lt HI.out.fl.lt))
    have HR9 : Hid (ResN B W9) := hr9
    obtain ⟨x0, x1, xf, xt⟩ := hr9
    clear hu hb9
    go_wp2
    refine bodyPost_ret (v := .tuple #[.string { data := #[] }, .agg #[.slice ua un up, .int .i64 uz]]) (by simp [results, Tryd.results13, go_sem, x0, x1]) rfl ?_
    exact ⟨_, rfl, HU.out.put HR9.out _ _, (HB9.out.setCell (p := ⟨B, 0, none⟩) (Nat.le_refl _) _).setCell (p := ⟨B, 1, none⟩) (Nat.le_refl _) _⟩
end Go.Proofs.YtnheeenkdjmhoaaDoor
