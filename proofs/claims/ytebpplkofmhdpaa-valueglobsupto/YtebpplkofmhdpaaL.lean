import Derived.Test.YtebpplkofmhdpaaK
import Derived.Deep.OwnRows
/-
  DERIVED. The document's matching of a pattern, by a table, walked.
-/
namespace Go.Proofs.Ytebpplkofmhdpaa
open Go Go.Proofs Go.RowKit

theorem boolInfo : (Try.prog.info? 4).map (fun i => (i.zero, i.size, i.bytes)) = some (some (.bool false), 1, 1) := by kernel_rfl

/-- The table's row, so far. -/
def rowF (P T : List Int) (i : Nat) : Nat → Value := fun j => .bool (gm (P.take i) (T.take j))
def rowN (P T : List Int) (i j : Nat) : Nat → Value := fun k => .bool (if k < j then gm (P.take (i + 1)) (T.take k) else false)

theorem rowN_next (P T : List Int) (i j : Nat) (b : Bool) (hb : b = gm (P.take (i + 1)) (T.take j)) (k : Nat) : (if k = j then .bool b else rowN P T i j k) = rowN P T i (j + 1) k := by
  unfold rowN
  by_cases h : k = j
  · subst h; rw [if_pos rfl, if_pos (by omega), hb]
  · rw [if_neg h]
    by_cases h2 : k < j
    · rw [if_pos h2, if_pos (by omega)]
    · rw [if_neg h2, if_neg (by omega)]
theorem rowN_skip (P T : List Int) (i j : Nat) (hb : gm (P.take (i + 1)) (T.take j) = false) (k : Nat) : rowN P T i j k = rowN P T i (j + 1) k := by
  have := rowN_next P T i j false hb.symm k
  rw [← this]
  by_cases h : k = j
  · subst h; rw [if_pos rfl]; unfold rowN; rw [if_neg (by omega)]
  · rw [if_neg h]

set_option maxRecDepth 100000 in
set_option maxHeartbeats 2000000 in
theorem rglob_any (w : World) (p t : ByteArray) (hp : p.size ≤ 2097152) (ht : t.size ≤ 2097152) :
    Calls Try.prog 10 #[.string p, .string t] w fun e w' => e = .returned (.bool (gm (relems p) (relems t))) ∧ Below w.heap.size w w' := by
  have c1 := relements_any w p hp
  have c2 := fun W => relements_any W t ht
  have HP : Hid ((relems p).length ≤ 2097152) := Nat.le_trans (relems_len p) hp
  have HT : Hid ((relems t).length ≤ 2097152) := Nat.le_trans (relems_len t) ht
  generalize relems p = P at *
  generalize relems t = T at *
  clear hp ht
  obtain ⟨R, hR⟩ : ∃ R, gm P T = R := ⟨_, rfl⟩
  have HRR : Hid (gm P T = R) := hR
  rw [hR]
  clear hR
  go_enter Try.func10, Try.ntmps10
  go_wp2_with (go_at_call 15; refine Stop.mk ?_)
  refine Stop.out (c1.mono ?_)
  rintro e W1 ⟨v1, rfl, ho1, hb1⟩
  go_wp2_with (go_at_call 15; refine Stop.mk ?_)
  refine Stop.out ((c2 W1).mono ?_)
  rintro e W2 ⟨v2, rfl, ho2, hb2⟩
  obtain ⟨a1, cap1, rfl, hcp1, hr1⟩ := own_rd64 ho1
  obtain ⟨a2, cap2, rfl, hcp2, hr2⟩ := own_rd64 ho2
  have hB : Below w.heap.size w W2 := hb1.trans (hb2.mono hb1.size)
  have HR1 : Hid (∀ k x, P[k]? = some x → ∃ g, a1 = some ⟨g, 0, none⟩ ∧ W2.cell? ⟨g, k, none⟩ = some (.int .i64 x)) := fun k x hk => by
    obtain ⟨g, hg, hc⟩ := hr1 k x hk
    exact ⟨g, hg, (hb2.cell (p := ⟨g, k, none⟩) (World.block_lt_of_cell? W1 ⟨g, k, none⟩ hc)).trans hc⟩
  have HR2 : Hid (∀ k x, T[k]? = some x → ∃ g, a2 = some ⟨g, 0, none⟩ ∧ W2.cell? ⟨g, k, none⟩ = some (.int .i64 x)) := hr2
  have HBw : Hid (Below w.heap.size w W2) := hB
  obtain ⟨n, hn⟩ : ∃ n, P.length = n := ⟨_, rfl⟩
  obtain ⟨m, hm⟩ : ∃ m, T.length = m := ⟨_, rfl⟩
  have HN : Hid (P.length = n) := hn
  have HM : Hid (T.length = m) := hm
  rw [hn] at hcp1
  rw [hm] at hcp2
  have hn2 : n ≤ 2097152 := hn ▸ HP.out
  have hm2 : m ≤ 2097152 := hm ▸ HT.out
  rw [hn, hm]
  clear hr1 hr2 ho1 ho2 hb1 hb2 hB c1 c2 HP HT hn hm
  have hmk : ∀ u : World, (Instr.makeSlice 32 (.int .i64 ((m : Int) + 1)) (.int .i64 ((m : Int) + 1))).run Try.prog u = .ok (.slice (some ⟨u.heap.size, 0, none⟩) (m + 1) (m + 1)) (u.alloc (.cells (madeCells #[.bool false] (m + 1)) 4)) :=
    fun u => run_make_row' 32 4 (.bool false) 1 Try.underlying32 boolInfo rfl .i64 .i64 (m + 1) (by omega) (by omega) u
  have hnew := World.rowIs_made W2 (.bool false) (m + 1) 4
  have hfz0 := hnew.frozen 0
  have hce0 := hnew.cell (i := 0) (by omega)
  have HF0 : Hid ((W2.alloc (.cells ((madeCells #[.bool false] (m + 1)).setIfInBounds 0 (.bool true)) 4)).rowIs W2.heap.size 4 (m + 1) (rowF P T 0)) := by
    refine ⟨(madeCells #[.bool false] (m + 1)).setIfInBounds 0 (.bool true), heap_alloc_new _ _, by rw [Array.size_setIfInBounds, size_madeCells], fun j hj => ?_⟩
    rw [Array.getElem?_setIfInBounds, size_madeCells, show (madeCells #[.bool false] (m + 1))[j]? = some (.bool false) by simp [madeCells, hj, Nat.mod_one]]
    unfold rowF
    rw [List.take_zero, gm_nil]
    by_cases h : j = 0
    · subst h; rw [if_pos rfl, if_pos (by omega)]; rfl
    · rw [if_neg (fun e => h e.symm)]
      have : (T.take j).isEmpty = false := by
        rw [List.isEmpty_eq_false_iff]
        intro e
        have := congrArg List.length e
        rw [List.length_take, HM.out] at this
        simp at this
        omega
      rw [this]
  clear hnew
  go_wp2
  go_loopg [7, 8] n (fun g s7 s8 wx => ∃ (i gf : Nat), s7 = .slice (some ⟨gf, 0, none⟩) (m + 1) (m + 1) ∧ s8 = .int .i64 (i : Int) ∧ g + i = n ∧ W2.heap.size ≤ gf ∧ Hid (wx.rowIs gf 4 (m + 1) (rowF P T i)) ∧ Hid (Below W2.heap.size W2 wx))
  case atStart => exact ⟨0, W2.heap.size, rfl, rfl, by omega, Nat.le_refl _, HF0, (Below.refl _ W2).alloc (Nat.le_refl _) _⟩
  case round =>
    clear HF0 hce0 hfz0
    obtain ⟨i, gf, rfl, rfl, hg, hgf, HF, HBx⟩ := hrel
    by_cases hin : i < n
    · have hiI : (i : Int) < (n : Int) := by omega
      obtain ⟨c, hc⟩ : ∃ c, P[i]? = some c := ⟨P[i]'(by rw [HN.out]; exact hin), List.getElem?_eq_getElem (by rw [HN.out]; exact hin)⟩
      obtain ⟨g1, rfl, hcc⟩ := HR1.out i c hc
      have hl1 := World.block_lt_of_cell? W2 ⟨g1, i, none⟩ hcc
      have HC1 : Hid (W2.cell? ⟨g1, i, none⟩ = some (.int .i64 c)) := hcc
      have HL1 : Hid (g1 < W2.heap.size) := hl1
      have HPc : Hid (P[i]? = some c) := hc
      have hgl := HF.out.lt
      have hnew := World.rowIs_made wr (.bool false) (m + 1) 4
      have HN0 : Hid ((wr.alloc (.cells (madeCells #[.bool false] (m + 1)) 4)).rowIs wr.heap.size 4 (m + 1) (rowN P T i 0)) := hnew.congr (fun j hj => by unfold rowN; rw [if_neg (by omega)])
      have HFn : Hid ((wr.alloc (.cells (madeCells #[.bool false] (m + 1)) 4)).rowIs gf 4 (m + 1) (rowF P T i)) := HF.out.alloc _
      have hsz := HBx.out.size
      have HBn : Hid (Below W2.heap.size W2 (wr.alloc (.cells (madeCells #[.bool false] (m + 1)) 4))) := HBx.out.alloc hsz _
      obtain ⟨gn, hgn⟩ : ∃ gn, wr.heap.size = gn := ⟨_, rfl⟩
      rw [hgn] at hgl HN0 hsz
      have hne : gf ≠ gn := by omega
      clear hnew hc hcc hl1
      go_wp2
      go_loopg [10] (m + 1) (fun g s10 wx => ∃ j : Nat, s10 = .int .i64 (j : Int) ∧ g + j = m + 1 ∧ Hid (wx.rowIs gn 4 (m + 1) (rowN P T i j)) ∧ Hid (wx.rowIs gf 4 (m + 1) (rowF P T i)) ∧ Hid (Below W2.heap.size W2 wx))
      case atStart => exact ⟨0, rfl, by omega, HN0, HFn, HBn⟩
      case round =>
        clear HN0 HFn HBn HBx HF
        obtain ⟨j, rfl, hgj, HN1, HF, HBx⟩ := hrel
        by_cases hjm : j ≤ m
        · have hjI : (j : Int) ≤ (m : Int) := by omega
          have hc1 := (HBx.out.cell (p := ⟨g1, i, none⟩) HL1.out).trans HC1.out
          have hfz := HN1.out.frozen j
          have hcn := HN1.out.cell (i := j) (by omega)
          have hcf := HF.out.cell (i := j) (by omega)
          have hjI1 : (j : Int) < (m : Int) + 1 := by omega
          have key : ∀ b : Bool, b = gm (P.take (i + 1)) (T.take j) → Hid ((wr.setCell ⟨gn, j, none⟩ (.bool b)).rowIs gn 4 (m + 1) (rowN P T i (j + 1))) ∧ Hid ((wr.setCell ⟨gn, j, none⟩ (.bool b)).rowIs gf 4 (m + 1) (rowF P T i)) ∧ Hid (Below W2.heap.size W2 (wr.setCell ⟨gn, j, none⟩ (.bool b))) := fun b hb =>
            ⟨(HN1.out.set j (.bool b)).congr (fun k _ => rowN_next P T i j b hb k), HF.out.setOther hne _, HBx.out.setCell hsz _⟩
          have HK : Hid (∀ b : Bool, b = gm (P.take (i + 1)) (T.take j) → Hid ((wr.setCell ⟨gn, j, none⟩ (.bool b)).rowIs gn 4 (m + 1) (rowN P T i (j + 1))) ∧ Hid ((wr.setCell ⟨gn, j, none⟩ (.bool b)).rowIs gf 4 (m + 1) (rowF P T i)) ∧ Hid (Below W2.heap.size W2 (wr.setCell ⟨gn, j, none⟩ (.bool b)))) := key
          clear key
          by_cases h42 : c = 42
          · have hT := tab_star P T i j (h42 ▸ HPc.out) (by rw [HM.out]; exact hjm)
            subst h42
            unfold rowF at hcf
            cases hF : gm (P.take i) (T.take j) with
            | true =>
              rw [hF] at hcf
              obtain ⟨k1, k2, k3⟩ := HK.out true (by rw [hT, hF]; rfl)
              clear hT hF HK HN1 HF HBx
              go_wp2
              go_roundg (m - j)
              case measure => omega
              case rel => exact ⟨j + 1, by simp, by omega, k1, k2, k3⟩
            | false =>
              rw [hF] at hcf
              by_cases hj0 : j = 0
              · subst hj0
                obtain ⟨k1, k2, k3⟩ := HK.out false (by rw [hT, hF]; rfl)
                clear hT hF HK HN1 HF HBx
                go_wp2
                go_roundg m
                case measure => omega
                case rel => exact ⟨1, by simp, by omega, k1, k2, k3⟩
              · obtain ⟨j', rfl⟩ : ∃ j', j = j' + 1 := ⟨j - 1, by omega⟩
                have hcp := HN1.out.cell (i := j') (by omega)
                unfold rowN at hcp
                rw [if_pos (by omega)] at hcp
                obtain ⟨k1, k2, k3⟩ := HK.out (gm (P.take (i + 1)) (T.take j')) (by rw [hT, hF]; simp)
                generalize gm (P.take (i + 1)) (T.take j') = B at *
                have hjp : (0 : Int) < ((j' + 1 : Nat) : Int) := by omega
                have hjs : ((j' + 1 : Nat) : Int) - 1 = (j' : Int) := by omega
                clear hT hF HK HN1 HF HBx
                go_wp2
                go_roundg (m - (j' + 1))
                case measure => omega
                case rel => exact ⟨j' + 1 + 1, by simp, by omega, k1, k2, k3⟩
          · have h42' : (c == 42) = false := by simpa using h42
            by_cases hj0 : j = 0
            · have hT := tab_first P T i c HPc.out h42
              have HN2 : Hid (wr.rowIs gn 4 (m + 1) (rowN P T i (0 + 1))) := by
                subst hj0
                exact HN1.out.congr (fun k _ => rowN_skip P T i 0 hT k)
              subst hj0
              clear hT HK HN1 h42
              go_wp2
              go_roundg m
              case measure => omega
              case rel => exact ⟨1, by simp, by omega, HN2, HF, HBx⟩
            · obtain ⟨j', rfl⟩ : ∃ j', j = j' + 1 := ⟨j - 1, by omega⟩
              obtain ⟨x, hx⟩ : ∃ x, T[j']? = some x := ⟨T[j']'(by rw [HM.out]; omega), List.getElem?_eq_getElem (by rw [HM.out]; omega)⟩
              obtain ⟨g2, rfl, hxx⟩ := HR2.out j' x hx
              have hc2 := (HBx.out.cell (p := ⟨g2, j', none⟩) (World.block_lt_of_cell? W2 ⟨g2, j', none⟩ hxx)).trans hxx
              have hT := tab_one P T i j' c x HPc.out h42 hx
              have hcp := HF.out.cell (i := j') (by omega)
              unfold rowF at hcp
              have hjp : (0 : Int) < ((j' + 1 : Nat) : Int) := by omega
              have hjs : ((j' + 1 : Nat) : Int) - 1 = (j' : Int) := by omega
              have hjm' : (j' : Int) < (m : Int) := by omega
              clear hx hxx
              cases hF : gm (P.take i) (T.take j') with
              | false =>
                rw [hF] at hcp
                obtain ⟨k1, k2, k3⟩ := HK.out false (by rw [hT, hF]; rfl)
                clear hT hF HK HN1 HF HBx h42 
                go_wp2
                go_region
                go_wp2
                go_roundg (m - (j' + 1))
                case measure => omega
                case rel => exact ⟨j' + 1 + 1, by simp, by omega, k1, k2, k3.out.drew⟩
              | true =>
                rw [hF] at hcp
                by_cases h63 : c = 63
                · have h63' : (c == 63) = true := by simpa using h63
                  obtain ⟨k1, k2, k3⟩ := HK.out true (by rw [hT, hF]; simp [h63])
                  clear hT hF HK HN1 HF HBx h42 h63
                  go_wp2
                  go_region
                  go_wp2
                  go_roundg (m - (j' + 1))
                  case measure => omega
                  case rel => exact ⟨j' + 1 + 1, by simp, by omega, k1, k2, k3.out.drew⟩
                · have h63' : (c == 63) = false := by simpa using h63
                  by_cases hcx : c = x
                  · subst hcx
                    obtain ⟨k1, k2, k3⟩ := HK.out true (by rw [hT, hF]; simp)
                    clear hT hF HK HN1 HF HBx h42 h63
                    go_wp2
                    go_region
                    go_wp2
                    go_roundg (m - (j' + 1))
                    case measure => omega
                    case rel => exact ⟨j' + 1 + 1, by simp, by omega, k1, k2, k3.out.drew⟩
                  · have hcx' : (c == x) = false := by simpa using hcx
                    obtain ⟨k1, k2, k3⟩ := HK.out false (by rw [hT, hF]; simp [hcx, h63])
                    clear hT hF HK HN1 HF HBx h42 h63 hcx
                    go_wp2
                    go_region
                    go_wp2
                    go_roundg (m - (j' + 1))
                    case measure => omega
                    case rel => exact ⟨j' + 1 + 1, by simp, by omega, k1, k2, k3.out.drew⟩
        · have hjI : ¬ ((j : Int) ≤ (m : Int)) := by omega
          obtain rfl : j = m + 1 := by omega
          have HF2 : Hid (wr.rowIs gn 4 (m + 1) (rowF P T (i + 1))) := HN1.out.congr (fun k hk => by unfold rowN rowF; rw [if_pos hk])
          clear HN1 HF
          go_wp2
          go_roundg (n - (i + 1))
          case measure => omega
          case rel => exact ⟨i + 1, gn, rfl, by simp, by omega, hsz, HF2, HBx⟩
    · obtain rfl : i = n := by omega
      have hcf := HF.out.cell (i := m) (by omega)
      unfold rowF at hcf
      rw [List.take_of_length_le (by rw [HN.out]; exact Nat.le_refl _), List.take_of_length_le (by rw [HM.out]; exact Nat.le_refl _), HRR.out] at hcf
      clear HF
      go_wp2
      go_ret
      exact ⟨rfl, HBw.out.trans (HBx.out.mono HBw.out.size)⟩
end Go.Proofs.Ytebpplkofmhdpaa
