import Derived.Test.YtilkogodhjnemaaGreatDoorBk
import Derived.Lib.ConvBytes
import Derived.Laws.IdiomStrings
/-
  DERIVED. A text that is bumped; nodes that are turned where they lie.
-/
namespace Go.Proofs.YtilkogodhjnemaaGreatDoor.Wk
open Go Go.Proofs Go.RowKit

theorem cell_set_ne {W : World} {b i j : Nat} {v : Value} (h : i ≠ j) : (W.setCell ⟨b, i, none⟩ v).cell? ⟨b, j, none⟩ = W.cell? ⟨b, j, none⟩ := by
  apply World.cell?_setCell_other; simp
theorem cell_set_eq {W : World} {b i : Nat} {v u : Value} (h : W.cell? ⟨b, i, none⟩ = some u) : (W.setCell ⟨b, i, none⟩ v).cell? ⟨b, i, none⟩ = some v := by
  apply World.cell?_setCell_same; exact h

set_option maxRecDepth 100000 in
set_option maxHeartbeats 2000000 in
theorem bump_any (w : World) (s : ByteArray) (hss : s.size ≤ 140737488351232) : Calls Tryz.prog 26 #[.string s] w fun e w' => ∃ q : ByteArray, e = .returned (.string q) ∧ Hid (Below w.heap.size w w') := by
  by_cases h0 : s.size = 0
  · have hs : s = ⟨#[]⟩ := by
      cases s with
      | mk d => cases d with
        | mk l => cases l with
          | nil => rfl
          | cons a l => simp [ByteArray.size] at h0
    subst hs
    go_enter Tryz.func26, Tryz.ntmps26
    go_wp2
    go_ret
    exact ⟨_, rfl, Below.refl _ _⟩
  · have hcv := Lib.run_convert_string_bytes (P := Tryz.prog) w 9 25 5 s Tryz.underlying9 Tryz.underlying25 Tryz.underlying5
    obtain ⟨W1, hW1⟩ : ∃ W1, Lib.bytesWorld w 5 s = W1 := ⟨_, rfl⟩
    have hnew := Lib.bytesWorld_at_new w 5 s
    have hcell : ∀ j, j < s.size → W1.cell? ⟨w.heap.size, j, none⟩ = some (.int .u8 (s.data.toList.getD j 0).toNat) := fun j hj => by rw [← hW1]; exact Lib.bytesWorld_cell w 5 s j hj
    have hsz : s.size ≤ (Lib.bytesCells w 5 s).size := by
      rcases Nat.lt_or_ge (s.size - 1) (Lib.bytesCells w 5 s).size with q | q
      · omega
      · have := Lib.bytesWorld_cell w 5 s (s.size - 1) (by omega)
        rw [cell_of_row _ _ _ _ _ _ hnew] at this
        have := (Array.getElem?_eq_some_iff.1 this).1
        omega
    have hfz : ∀ j, j < s.size → W1.frozen? ⟨w.heap.size, j, none⟩ = false := fun j hj => by
      rw [← hW1, World.frozen?, hnew]
      simp
      omega
    have HB : Hid (Below w.heap.size w W1) := by
      rw [← hW1]
      exact ⟨rfl, rfl, rfl, by rw [Lib.bytesWorld_size]; omega, fun j hj => Lib.bytesWorld_at_old w 5 s j hj⟩
    obtain ⟨cap, hcap⟩ : ∃ cap, grownCap w s.size 0 5 = cap := ⟨_, rfl⟩
    rw [hW1, hcap] at hcv
    obtain ⟨n, hn⟩ : ∃ n, s.size = n + 1 := ⟨s.size - 1, by omega⟩
    rw [hn] at hcv
    have hl : s.data.toList.length = n + 1 := by rw [← hn]; rfl
    have hcn := hcell n (by omega)
    have hfn := hfz n (by omega)
    have hb1 : (convert 25 9 (.slice (some ⟨w.heap.size, 0, none⟩) (n + 1) cap)).run Tryz.prog W1 = .ok (.string ⟨s.data.toList.toArray⟩) W1 := by
      have := run_convert_bytes_back (P := Tryz.prog) W1 25 9 5 ⟨w.heap.size, 0, none⟩ cap s.data.toList Tryz.underlying25 Tryz.underlying5 Tryz.underlying9 (fun j hj => by
        have hc := hcell j (by omega)
        have ha : (⟨w.heap.size, 0, none⟩ : Addr).add j = ⟨w.heap.size, j, none⟩ := by unfold Addr.add; split <;> simp_all
        rw [ha, hc, List.getD_eq_getElem?_getD, List.getElem?_eq_getElem hj]
        rfl)
      rw [hl] at this
      exact this
    obtain ⟨c, hc⟩ : ∃ c, s.data.toList.getD n 0 = c := ⟨_, rfl⟩
    rw [hc] at hcn
    have hb2 : (convert 25 9 (.slice (some ⟨w.heap.size, 0, none⟩) (n + 1) cap)).run Tryz.prog (W1.setCell ⟨w.heap.size, n, none⟩ (.int .u8 ((c + 1).toNat : Int))) = .ok (.string ⟨(s.data.toList.set n (c + 1)).toArray⟩) (W1.setCell ⟨w.heap.size, n, none⟩ (.int .u8 ((c + 1).toNat : Int))) := by
      have := run_convert_bytes_back (P := Tryz.prog) (W1.setCell ⟨w.heap.size, n, none⟩ (.int .u8 ((c + 1).toNat : Int))) 25 9 5 ⟨w.heap.size, 0, none⟩ cap (s.data.toList.set n (c + 1)) Tryz.underlying25 Tryz.underlying5 Tryz.underlying9 (fun j hj => by
        rw [List.length_set] at hj
        have hcj := hcell j (by omega)
        have ha : (⟨w.heap.size, 0, none⟩ : Addr).add j = ⟨w.heap.size, j, none⟩ := by unfold Addr.add; split <;> simp_all
        rw [ha]
        by_cases e : n = j
        · subst e
          rw [cell_set_eq hcn, List.getElem_set_self]
        · rw [cell_set_ne e, hcj, List.getElem_set_ne e, List.getD_eq_getElem?_getD, List.getElem?_eq_getElem hj]
          rfl)
      rw [List.length_set, hl] at this
      exact this
    have HB2 : Hid (Below w.heap.size w (W1.setCell ⟨w.heap.size, n, none⟩ (.int .u8 ((c + 1).toNat : Int)))) := HB.out.setCell (Nat.le_refl _) _
    obtain ⟨z, hz⟩ : ∃ z : Nat, c.toNat = z := ⟨_, rfl⟩
    have hz256 : z < 256 := by rw [← hz]; exact UInt8.toNat_lt c
    rw [hz] at hcn
    have hbe : ((s.toList == ([] : List UInt8))) = false := by
      rw [ByteArray.toList_eq]
      cases h : s.data.toList with
      | nil => rw [h] at hl; simp at hl
      | cons a l => rfl
    have hn2 : n ≤ 140737488351232 := by omega
    by_cases hcd : (48 ≤ z ∧ z ≤ 56) ∨ (65 ≤ z ∧ z ≤ 89) ∨ (97 ≤ z ∧ z ≤ 121)
    · have hz1 : ((c + 1).toNat : Int) = (z : Int) + 1 := by
        rw [UInt8.toNat_add, hz]
        simp
        omega
      rw [hz1] at hb2 HB2
      have hw : ((z : Int) + 1) % 256 = (z : Int) + 1 := by omega
      clear hcell hfz hsz hnew hW1 hl hc hz hcap hb1
      rcases hcd with ⟨h1, h2⟩ | ⟨h1, h2⟩ | ⟨h1, h2⟩
      · have e1 : (48 : Int) ≤ (z : Int) := by omega
        have e2 : (z : Int) ≤ 56 := by omega
        go_enter Tryz.func26, Tryz.ntmps26
        go_wp2
        go_ret
        first | exact ⟨⟨_, rfl⟩, HB2⟩ | exact ⟨_, rfl, HB2⟩
      · have e1 : (48 : Int) ≤ (z : Int) := by omega
        have e2 : ¬ (z : Int) ≤ 56 := by omega
        have e3 : (65 : Int) ≤ (z : Int) := by omega
        have e4 : (z : Int) ≤ 89 := by omega
        go_enter Tryz.func26, Tryz.ntmps26
        go_wp2
        go_ret
        first | exact ⟨⟨_, rfl⟩, HB2⟩ | exact ⟨_, rfl, HB2⟩
      · have e1 : (48 : Int) ≤ (z : Int) := by omega
        have e2 : ¬ (z : Int) ≤ 56 := by omega
        have e3 : (65 : Int) ≤ (z : Int) := by omega
        have e4 : ¬ (z : Int) ≤ 89 := by omega
        have e5 : (97 : Int) ≤ (z : Int) := by omega
        have e6 : (z : Int) ≤ 121 := by omega
        go_enter Tryz.func26, Tryz.ntmps26
        go_wp2
        go_ret
        first | exact ⟨⟨_, rfl⟩, HB2⟩ | exact ⟨_, rfl, HB2⟩
    · clear hcell hfz hsz hnew hW1 hl hc hz hcap hb2 HB2
      have hk : z < 48 ∨ (56 < z ∧ z < 65) ∨ (89 < z ∧ z < 97) ∨ 121 < z := by omega
      clear hcd
      rcases hk with h1 | ⟨h1, h2⟩ | ⟨h1, h2⟩ | h1
      · have e1 : ¬ (48 : Int) ≤ (z : Int) := by omega
        have e3 : ¬ (65 : Int) ≤ (z : Int) := by omega
        have e5 : ¬ (97 : Int) ≤ (z : Int) := by omega
        go_enter Tryz.func26, Tryz.ntmps26
        go_wp2
        go_ret
        first | exact ⟨⟨_, rfl⟩, HB⟩ | exact ⟨_, rfl, HB⟩
      · have e1 : (48 : Int) ≤ (z : Int) := by omega
        have e2 : ¬ (z : Int) ≤ 56 := by omega
        have e3 : ¬ (65 : Int) ≤ (z : Int) := by omega
        have e5 : ¬ (97 : Int) ≤ (z : Int) := by omega
        go_enter Tryz.func26, Tryz.ntmps26
        go_wp2
        go_ret
        first | exact ⟨⟨_, rfl⟩, HB⟩ | exact ⟨_, rfl, HB⟩
      · have e1 : (48 : Int) ≤ (z : Int) := by omega
        have e2 : ¬ (z : Int) ≤ 56 := by omega
        have e3 : (65 : Int) ≤ (z : Int) := by omega
        have e4 : ¬ (z : Int) ≤ 89 := by omega
        have e5 : ¬ (97 : Int) ≤ (z : Int) := by omega
        go_enter Tryz.func26, Tryz.ntmps26
        go_wp2
        go_ret
        first | exact ⟨⟨_, rfl⟩, HB⟩ | exact ⟨_, rfl, HB⟩
      · have e1 : (48 : Int) ≤ (z : Int) := by omega
        have e2 : ¬ (z : Int) ≤ 56 := by omega
        have e3 : (65 : Int) ≤ (z : Int) := by omega
        have e4 : ¬ (z : Int) ≤ 89 := by omega
        have e5 : (97 : Int) ≤ (z : Int) := by omega
        have e6 : ¬ (z : Int) ≤ 121 := by omega
        go_enter Tryz.func26, Tryz.ntmps26
        go_wp2
        go_ret
        first | exact ⟨⟨_, rfl⟩, HB⟩ | exact ⟨_, rfl, HB⟩
end Go.Proofs.YtilkogodhjnemaaGreatDoor.Wk

/-
  DERIVED. Nodes that are turned where they lie.
-/
namespace Go.Proofs.YtilkogodhjnemaaGreatDoor.Wk
open Go Go.Proofs Go.RowKit

/-- All but one block is as it was. -/
structure KO (g : Nat) (w w' : World) : Prop where
  os : w'.os = w.os
  tape : w'.tape = w.tape
  output : w'.output = w.output
  size : w.heap.size ≤ w'.heap.size
  block : ∀ k, k < w.heap.size → k ≠ g → w'.heap[k]? = w.heap[k]?
theorem KO.refl (g : Nat) (w : World) : KO g w w := ⟨rfl, rfl, rfl, Nat.le_refl _, fun _ _ _ => rfl⟩
theorem KO.trans {g : Nat} {w w' w'' : World} (h : KO g w w') (h2 : KO g w' w'') : KO g w w'' :=
  ⟨h2.os.trans h.os, h2.tape.trans h.tape, h2.output.trans h.output, Nat.le_trans h.size h2.size, fun k hk hn => (h2.block k (Nat.lt_of_lt_of_le hk h.size) hn).trans (h.block k hk hn)⟩
theorem KO.of {g : Nat} {w w' : World} (h : Below w.heap.size w w') : KO g w w' := ⟨h.os, h.tape, h.output, h.size, fun k hk _ => h.block k hk⟩
theorem KO.below {g B : Nat} {w w' : World} (h : KO g w w') (hg : B ≤ g) (hB : B ≤ w.heap.size) : Below B w w' := ⟨h.os, h.tape, h.output, h.size, fun k hk => h.block k (by omega) (by omega)⟩

theorem nds_set : ∀ (L : List Nd) (i : Nat) (h : i < L.length) (q : ByteArray), (nds L).set (i * 4 + 3) (.string q) = nds (L.set i { (L[i]'h) with s := q })
  | a :: L, 0, h, q => by
    simp [nds, Nd.cs]
  | a :: L, i + 1, h, q => by
    have ih := nds_set L i (by simpa using h) q
    rw [List.set_cons_succ, show nds (a :: L) = a.cs ++ nds L from rfl, show ∀ M, nds (a :: M) = a.cs ++ nds M from fun _ => rfl]
    rw [List.set_append_right _ _ (by simp [Nd.cs]; omega), show (i + 1) * 4 + 3 - a.cs.length = i * 4 + 3 by simp [Nd.cs]; omega, ih]
    rfl
theorem Lent.set {g base : Nat} {L : List Nd} {w : World} (h : Lent g L base w) {i : Nat} (hi : i < L.length) (q : ByteArray) : Lent g (L.set i { (L[i]'hi) with s := q }) base (w.setCell ⟨g, i * 4 + 3, none⟩ (.string q)) := by
  have h1 := (World.ownsRow.stored h (i * 4 + 3) (.string q)).1
  rw [nds_set (L ++ [mrk]) i (by simp; omega) q, List.getElem_append_left hi, List.set_append_left _ _ hi] at h1
  unfold Lent
  rw [List.length_set]
  exact h1
theorem Lent.keep {g base : Nat} {L : List Nd} {w w' : World} (h : Lent g L base w) (hk : w'.heap[g]? = w.heap[g]?) : Lent g L base w' :=
  own_keep h (fun g' hg => by cases hg; exact hk)
theorem Lent.lt {g base : Nat} {L : List Nd} {w : World} (h : Lent g L base w) : g < w.heap.size := (World.ownsRow.lt h g rfl).2

/-- The same nodes, but for their texts. -/
def Sh (L Q : List Nd) : Prop := Q.length = L.length ∧ ∀ j (h : j < L.length) (h' : j < Q.length), (Q[j]'h').t = (L[j]'h).t ∧ (Q[j]'h').v = (L[j]'h).v ∧ (Q[j]'h').n = (L[j]'h).n
/-- While nodes are turned. -/
structure TnI (w : World) (g base : Nat) (L : List Nd) (i : Nat) (v : Value) (wx : World) (Q : List Nd) : Prop where
  sh : Sh L Q
  rest : ∀ j (h : j < L.length) (h' : j < Q.length), i ≤ j → Q[j]'h' = L[j]'h
  lent : Lent g Q base wx
  own : wx.ownsRow w.heap.size 47 4 v i (nds (Q.take i))
  ko : KO g w wx

theorem TnI.step {w wr W W' : World} {g base i : Nat} {L Q : List Nd} {v v' : Value} {q : ByteArray} (h : TnI w g base L i v wr Q) (hg : g < w.heap.size) (hb : Below wr.heap.size wr W) (hi : i < Q.length)
    (o : Obj) (ho : W'.ownsRow w.heap.size 47 4 v' (i + 1) (nds (Q.take i) ++ ({ (Q[i]'hi) with s := q } : Nd).cs)) (hgr : ((W.setCell ⟨g, i * 4 + 3, none⟩ (.string q)).alloc o).grownBy W' v.ownBlock) :
    TnI w g base L (i + 1) v' W' (Q.set i { (Q[i]'hi) with s := q }) := by
  have hlw : Lent g Q base W := h.lent.keep (hb.block g h.lent.lt)
  have hls := hlw.set hi q
  have hgW : g < W.heap.size := Nat.lt_of_lt_of_le h.lent.lt hb.size
  have hrow : ∀ k, v.ownBlock = some k → w.heap.size ≤ k := fun k hk => (h.own.lt k hk).1
  have hsz : (W.setCell ⟨g, i * 4 + 3, none⟩ (.string q)).heap.size = W.heap.size := by simp
  have hla : ((W.setCell ⟨g, i * 4 + 3, none⟩ (.string q)).alloc o).heap[g]? = (W.setCell ⟨g, i * 4 + 3, none⟩ (.string q)).heap[g]? := heap_old _ _ (by rw [hsz]; exact hgW)
  have hl' : W'.heap[g]? = (W.setCell ⟨g, i * 4 + 3, none⟩ (.string q)).heap[g]? := (hgr.block g (by rw [size_alloc, hsz]; omega) (fun e => by have := hrow g e.symm; omega)).trans hla
  obtain ⟨hs1, hs2⟩ := h.sh
  refine ⟨⟨by rw [List.length_set]; exact hs1, fun j hj hj' => ?_⟩, fun j hj hj' hij => ?_, hls.keep hl', ?_, ?_⟩
  · by_cases e : i = j
    · subst e
      rw [List.getElem_set_self]
      exact hs2 i hj (by omega)
    · rw [List.getElem_set_ne e]
      exact hs2 j hj (by omega)
  · rw [List.getElem_set_ne (by omega)]
    exact h.rest j hj (by omega) (by omega)
  · rw [take_nds (by rw [List.length_set]; exact hi), List.getElem_set_self, List.take_set_of_le (Nat.le_refl _)]
    exact ho
  · have hws : w.heap.size ≤ W.heap.size := Nat.le_trans h.ko.size hb.size
    refine ⟨(hgr.os.trans hb.os).trans h.ko.os, (hgr.tape.trans hb.tape).trans h.ko.tape, (hgr.output.trans hb.output).trans h.ko.output, by have := hgr.size; rw [size_alloc, hsz] at this; omega, fun k hk hkg => ?_⟩
    have h1 := hgr.block k (by rw [size_alloc, hsz]; omega) (fun e => by have := hrow k e.symm; omega)
    have h2 := heap_old (W.setCell ⟨g, i * 4 + 3, none⟩ (.string q)) o (k := k) (by rw [hsz]; omega)
    have h3 := Below.heap_setCell W ⟨g, i * 4 + 3, none⟩ (.string q) k hkg
    exact ((h1.trans h2).trans h3).trans ((hb.block k (Nat.lt_of_lt_of_le hk h.ko.size)).trans (h.ko.block k hk hkg))

set_option maxRecDepth 100000 in
set_option maxHeartbeats 2000000 in
theorem turn_any (w : World) (g base n : Nat) (L : List Nd) (hl : Lent g L base w) (hn : n = L.length) (hsm : n ≤ 3518437208780) (hts : ∀ x ∈ L, x.s.size ≤ 140737488351232) : Calls Tryz.prog 11 #[.slice (some ⟨g, 0, none⟩) n (n + 1)] w fun e w' => ∃ v, e = .returned v ∧ Hid (∃ Q, TnI w g base L n v w' Q) := by
  have HN : Hid (n = L.length) := hn
  have HT : Hid (∀ x ∈ L, x.s.size ≤ 140737488351232) := hts
  have HL0 : Hid (Lent g L base w) := hl
  have hgl := hl.lt
  clear hl hts hn
  go_enter Tryz.func11, Tryz.ntmps11
  go_wp2
  go_loopw [3, 4] (fun s3 s4 wx => ∃ i : Nat, s4 = .int .i64 (i : Int) ∧ i ≤ n ∧ Hid (∃ Q, TnI w g base L i s3 wx Q)) (fun _ s4 _ => n - (intOf s4).toNat)
  case atStart => exact ⟨0, rfl, by omega, L, ⟨rfl, fun j h h' => ⟨rfl, rfl, rfl⟩⟩, fun j h h' _ => rfl, HL0.out, World.ownsRow_nil _ _ _ _, KO.refl _ _⟩
  case round =>
    obtain ⟨i, rfl, hin, HI⟩ := hrel
    by_cases hil : i < n
    · obtain ⟨Q, hQ⟩ := HI.out
      have hiL : i < L.length := by rw [← HN.out]; exact hil
      have hiQ : i < Q.length := by rw [hQ.sh.1]; exact hiL
      have hqs : (Q[i]'hiQ).s.size ≤ 140737488351232 := by rw [hQ.rest i hiL hiQ (Nat.le_refl _)]; exact HT.out _ (List.getElem_mem hiL)
      have hcell : ∀ k, k < 4 → wr.cell? ⟨g, i * 4 + k, none⟩ = ((Q[i]'hiQ).cs)[k]? := fun k hk => by
        refine (World.ownsRow.cellAt hQ.lent (i * 4 + k) (by omega)).trans ?_
        rw [nds_get (Q ++ [mrk]) i (by simp; omega) k hk, List.getElem_append_left hiQ]
      have HQ : Hid (TnI w g base L i u3 wr Q) := hQ
      have hfz := World.ownsRow.frozenAt hQ.lent (i * 4 + 3)
      have hgr : g < wr.heap.size := hQ.lent.lt
      have hws := hQ.ko.size
      have HS := fun (W W' : World) (v' : Value) (q : ByteArray) hb o ho hg => hQ.step (W := W) (W' := W') (v' := v') (q := q) hgl hb hiQ o ho hg
      obtain ⟨a, ha⟩ : ∃ a, Q[i]'hiQ = a := ⟨_, rfl⟩
      simp only [ha] at hcell hqs HS
      have c0 : wr.cell? ⟨g, i * 4, none⟩ = some (.int .u32 a.t) := hcell 0 (by decide)
      have c1 : wr.cell? ⟨g, i * 4 + 1, none⟩ = some (.int .i64 a.v) := hcell 1 (by decide)
      have c2 : wr.cell? ⟨g, i * 4 + 2, none⟩ = some (.int .i64 a.n) := hcell 2 (by decide)
      have c3 : wr.cell? ⟨g, i * 4 + 3, none⟩ = some (.string a.s) := hcell 3 (by decide)
      have HST : Hid _ := HS
      have hI : (i : Int) < (n : Int) := by omega
      have HC : Hid _ := bump_any wr a.s hqs
      clear hcell hQ ha HS HI
      go_wp2_with (go_at_call 26; refine StopF.out ?_)
      refine ⟨Calls.mono HC.out ?_⟩
      rintro ee W ⟨q, rfl, hb⟩
      have HBW : Hid (Below wr.heap.size wr W) := hb.out
      have hgW : g < W.heap.size := Nat.lt_of_lt_of_le hgr HBW.out.size
      have hsW := HBW.out.size
      replace c0 := (HBW.out.cell (p := ⟨g, i * 4, none⟩) hgr).trans c0
      replace c1 := (HBW.out.cell (p := ⟨g, i * 4 + 1, none⟩) hgr).trans c1
      replace c2 := (HBW.out.cell (p := ⟨g, i * 4 + 2, none⟩) hgr).trans c2
      replace c3 := (HBW.out.cell (p := ⟨g, i * 4 + 3, none⟩) hgr).trans c3
      replace hfz := (HBW.out.frozen (p := ⟨g, i * 4 + 3, none⟩) hgr).trans hfz
      clear hb HC
      go_wp2_with (at_builtin; refine Stop.mk ?_)
      have HO : Hid ((W.setCell ⟨g, i * 4 + 3, none⟩ (.string q)).ownsRow w.heap.size 47 4 u3 i (nds (Q.take i))) := ownsRow_setCell_other (ownsRow_below HQ.out.own HBW.out (Nat.le_refl _)) (fun e => by have := (HQ.out.own.lt g e).1; omega) _
      refine Stop.out (app22 rfl (.tmp 21) (.tmp 26) rfl w.heap.size u3 i _ rfl (World.ownsRow.alloc HO.out _) ⟨W.heap.size, 0, none⟩ 1 1 ({ a with s := q } : Nd).cs rfl rfl (news_new (by simp) _ _) (cs_one _) (by decide) (by omega) (by rw [size_alloc]; simp; omega) ?_)
      intro g9 c9 W9 ho9 hg9 _ _
      have HI9 : Hid (∃ Q, TnI w g base L (i + 1) (.slice (some ⟨g9, 0, none⟩) (i + 1) c9) W9 Q) := ⟨_, HST.out W W9 _ q HBW.out _ ho9 hg9⟩
      clear ho9 hg9 HST HO HQ
      go_wp2
      go_roundw
      case rel => exact ⟨i + 1, by go_num, by omega, HI9⟩
      case measure => simp [intOf]; omega
    · obtain rfl : i = n := by omega
      have hI : ¬ (i : Int) < (i : Int) := by omega
      go_wp2
      go_ret
      exact ⟨_, rfl, HI⟩
end Go.Proofs.YtilkogodhjnemaaGreatDoor.Wk
