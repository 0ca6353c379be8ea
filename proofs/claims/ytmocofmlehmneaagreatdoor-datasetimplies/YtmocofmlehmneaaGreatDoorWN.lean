
import Derived.Test.YtmocofmlehmneaaGreatDoorWM
/-
  DERIVED. Nodes that are turned where they lie.
-/
namespace Go.Proofs.YtmocofmlehmneaaGreatDoor.Wk
open Go Go.Proofs Go.RowKit

/-- All but one block is as it was. -/
structure KO (g : Nat) (w w' : World) : Prop where
  os : w'.os = w.os
  tape : w'.tape = w.tape
  output : w'.output = w.output
  size : w.heap.size ≤ w'.heap.size
  block : ∀ k, k < w.heap.size → k ≠ g → w'.heap[k]? = w.heap[k]?
theorem KO.refl (g : Nat) (w : World) : KO g w w := ⟨rfl, rfl, rfl, Nat.le_refl _, fun _ _ _ => rfl⟩
theorem KO.trans {g : Nat} {w w' w'' : World} (h : KO g w w') (h2 : KO g w' w'') : KO g w w'' :=
  ⟨h2.os.trans h.os, h2.tape.trans h.tape, h2.output.trans h.output, Nat.le_trans h.size h2.size, fun k hk hn => (h2.block k (Nat.lt_of_lt_of_le hk h.size) hn).trans (h.block k hk hn)⟩
theorem KO.of {g : Nat} {w w' : World} (h : Below w.heap.size w w') : KO g w w' := ⟨h.os, h.tape, h.output, h.size, fun k hk _ => h.block k hk⟩
theorem KO.below {g B : Nat} {w w' : World} (h : KO g w w') (hg : B ≤ g) (hB : B ≤ w.heap.size) : Below B w w' := ⟨h.os, h.tape, h.output, h.size, fun k hk => h.block k (by omega) (by omega)⟩

theorem nds_set : ∀ (L : List Nd) (i : Nat) (h : i < L.length) (q : ByteArray), (nds L).set (i * 4 + 3) (.string q) = nds (L.set i { (L[i]'h) with s := q })
  | a :: L, 0, h, q => by
    simp [nds, Nd.cs]
  | a :: L, i + 1, h, q => by
    have ih := nds_set L i (by simpa using h) q
    rw [List.set_cons_succ, show nds (a :: L) = a.cs ++ nds L from rfl, show ∀ M, nds (a :: M) = a.cs ++ nds M from fun _ => rfl]
    rw [List.set_append_right _ _ (by simp [Nd.cs]; omega), show (i + 1) * 4 + 3 - a.cs.length = i * 4 + 3 by simp [Nd.cs]; omega, ih]
    rfl
theorem Lent.set {g base : Nat} {L : List Nd} {w : World} (h : Lent g L base w) {i : Nat} (hi : i < L.length) (q : ByteArray) : Lent g (L.set i { (L[i]'hi) with s := q }) base (w.setCell ⟨g, i * 4 + 3, none⟩ (.string q)) := by
  have h1 := (World.ownsRow.stored h (i * 4 + 3) (.string q)).1
  rw [nds_set (L ++ [mrk]) i (by simp; omega) q, List.getElem_append_left hi, List.set_append_left _ _ hi] at h1
  unfold Lent
  rw [List.length_set]
  exact h1
theorem Lent.keep {g base : Nat} {L : List Nd} {w w' : World} (h : Lent g L base w) (hk : w'.heap[g]? = w.heap[g]?) : Lent g L base w' :=
  own_keep h (fun g' hg => by cases hg; exact hk)
theorem Lent.lt {g base : Nat} {L : List Nd} {w : World} (h : Lent g L base w) : g < w.heap.size := (World.ownsRow.lt h g rfl).2

/-- The same nodes, but for their texts. -/
def Sh (L Q : List Nd) : Prop := Q.length = L.length ∧ ∀ j (h : j < L.length) (h' : j < Q.length), (Q[j]'h').t = (L[j]'h).t ∧ (Q[j]'h').v = (L[j]'h).v ∧ (Q[j]'h').n = (L[j]'h).n
/-- While nodes are turned. -/
structure TnI (w : World) (g base : Nat) (L : List Nd) (i : Nat) (v : Value) (wx : World) (Q : List Nd) : Prop where
  sh : Sh L Q
  rest : ∀ j (h : j < L.length) (h' : j < Q.length), i ≤ j → Q[j]'h' = L[j]'h
  lent : Lent g Q base wx
  own : wx.ownsRow w.heap.size 42 4 v i (nds (Q.take i))
  ko : KO g w wx

theorem TnI.step {w wr W W' : World} {g base i : Nat} {L Q : List Nd} {v v' : Value} {q : ByteArray} (h : TnI w g base L i v wr Q) (hg : g < w.heap.size) (hb : Below wr.heap.size wr W) (hi : i < Q.length)
    (o : Obj) (ho : W'.ownsRow w.heap.size 42 4 v' (i + 1) (nds (Q.take i) ++ ({ (Q[i]'hi) with s := q } : Nd).cs)) (hgr : ((W.setCell ⟨g, i * 4 + 3, none⟩ (.string q)).alloc o).grownBy W' v.ownBlock) :
    TnI w g base L (i + 1) v' W' (Q.set i { (Q[i]'hi) with s := q }) := by
  have hlw : Lent g Q base W := h.lent.keep (hb.block g h.lent.lt)
  have hls := hlw.set hi q
  have hgW : g < W.heap.size := Nat.lt_of_lt_of_le h.lent.lt hb.size
  have hrow : ∀ k, v.ownBlock = some k → w.heap.size ≤ k := fun k hk => (h.own.lt k hk).1
  have hsz : (W.setCell ⟨g, i * 4 + 3, none⟩ (.string q)).heap.size = W.heap.size := by simp
  have hla : ((W.setCell ⟨g, i * 4 + 3, none⟩ (.string q)).alloc o).heap[g]? = (W.setCell ⟨g, i * 4 + 3, none⟩ (.string q)).heap[g]? := heap_old _ _ (by rw [hsz]; exact hgW)
  have hl' : W'.heap[g]? = (W.setCell ⟨g, i * 4 + 3, none⟩ (.string q)).heap[g]? := (hgr.block g (by rw [size_alloc, hsz]; omega) (fun e => by have := hrow g e.symm; omega)).trans hla
  obtain ⟨hs1, hs2⟩ := h.sh
  refine ⟨⟨by rw [List.length_set]; exact hs1, fun j hj hj' => ?_⟩, fun j hj hj' hij => ?_, hls.keep hl', ?_, ?_⟩
  · by_cases e : i = j
    · subst e
      rw [List.getElem_set_self]
      exact hs2 i hj (by omega)
    · rw [List.getElem_set_ne e]
      exact hs2 j hj (by omega)
  · rw [List.getElem_set_ne (by omega)]
    exact h.rest j hj (by omega) (by omega)
  · rw [take_nds (by rw [List.length_set]; exact hi), List.getElem_set_self, List.take_set_of_le (Nat.le_refl _)]
    exact ho
  · have hws : w.heap.size ≤ W.heap.size := Nat.le_trans h.ko.size hb.size
    refine ⟨(hgr.os.trans hb.os).trans h.ko.os, (hgr.tape.trans hb.tape).trans h.ko.tape, (hgr.output.trans hb.output).trans h.ko.output, by have := hgr.size; rw [size_alloc, hsz] at this; omega, fun k hk hkg => ?_⟩
    have h1 := hgr.block k (by rw [size_alloc, hsz]; omega) (fun e => by have := hrow k e.symm; omega)
    have h2 := heap_old (W.setCell ⟨g, i * 4 + 3, none⟩ (.string q)) o (k := k) (by rw [hsz]; omega)
    have h3 := Below.heap_setCell W ⟨g, i * 4 + 3, none⟩ (.string q) k hkg
    exact ((h1.trans h2).trans h3).trans ((hb.block k (Nat.lt_of_lt_of_le hk h.ko.size)).trans (h.ko.block k hk hkg))

set_option maxRecDepth 100000 in
set_option maxHeartbeats 2000000 in
theorem turn_any (w : World) (g base n : Nat) (L : List Nd) (hl : Lent g L base w) (hn : n = L.length) (hsm : n ≤ 3518437208780) (hts : ∀ x ∈ L, x.s.size ≤ 140737488351232) : Calls Tryz.prog 10 #[.slice (some ⟨g, 0, none⟩) n (n + 1)] w fun e w' => ∃ v, e = .returned v ∧ Hid (∃ Q, TnI w g base L n v w' Q) := by
  have HN : Hid (n = L.length) := hn
  have HT : Hid (∀ x ∈ L, x.s.size ≤ 140737488351232) := hts
  have HL0 : Hid (Lent g L base w) := hl
  have hgl := hl.lt
  clear hl hts hn
  go_enter Tryz.func10, Tryz.ntmps10
  go_wp2
  go_loopw [3, 4] (fun s3 s4 wx => ∃ i : Nat, s4 = .int .i64 (i : Int) ∧ i ≤ n ∧ Hid (∃ Q, TnI w g base L i s3 wx Q)) (fun _ s4 _ => n - (intOf s4).toNat)
  case atStart => exact ⟨0, rfl, by omega, L, ⟨rfl, fun j h h' => ⟨rfl, rfl, rfl⟩⟩, fun j h h' _ => rfl, HL0.out, World.ownsRow_nil _ _ _ _, KO.refl _ _⟩
  case round =>
    obtain ⟨i, rfl, hin, HI⟩ := hrel
    by_cases hil : i < n
    · obtain ⟨Q, hQ⟩ := HI.out
      have hiL : i < L.length := by rw [← HN.out]; exact hil
      have hiQ : i < Q.length := by rw [hQ.sh.1]; exact hiL
      have hqs : (Q[i]'hiQ).s.size ≤ 140737488351232 := by rw [hQ.rest i hiL hiQ (Nat.le_refl _)]; exact HT.out _ (List.getElem_mem hiL)
      have hcell : ∀ k, k < 4 → wr.cell? ⟨g, i * 4 + k, none⟩ = ((Q[i]'hiQ).cs)[k]? := fun k hk => by
        refine (World.ownsRow.cellAt hQ.lent (i * 4 + k) (by omega)).trans ?_
        rw [nds_get (Q ++ [mrk]) i (by simp; omega) k hk, List.getElem_append_left hiQ]
      have HQ : Hid (TnI w g base L i u3 wr Q) := hQ
      have hfz := World.ownsRow.frozenAt hQ.lent (i * 4 + 3)
      have hgr : g < wr.heap.size := hQ.lent.lt
      have hws := hQ.ko.size
      have HS := fun (W W' : World) (v' : Value) (q : ByteArray) hb o ho hg => hQ.step (W := W) (W' := W') (v' := v') (q := q) hgl hb hiQ o ho hg
      obtain ⟨a, ha⟩ : ∃ a, Q[i]'hiQ = a := ⟨_, rfl⟩
      simp only [ha] at hcell hqs HS
      have c0 : wr.cell? ⟨g, i * 4, none⟩ = some (.int .u32 a.t) := hcell 0 (by decide)
      have c1 : wr.cell? ⟨g, i * 4 + 1, none⟩ = some (.int .i64 a.v) := hcell 1 (by decide)
      have c2 : wr.cell? ⟨g, i * 4 + 2, none⟩ = some (.int .i64 a.n) := hcell 2 (by decide)
      have c3 : wr.cell? ⟨g, i * 4 + 3, none⟩ = some (.string a.s) := hcell 3 (by decide)
      have HST : Hid _ := HS
      have hI : (i : Int) < (n : Int) := by omega
      have HC : Hid _ := bump_any wr a.s hqs
      clear hcell hQ ha HS HI
      go_wp2_with (go_at_call 28; refine StopF.out ?_)
      refine ⟨Calls.mono HC.out ?_⟩
      rintro ee W ⟨q, rfl, hb⟩
      have HBW : Hid (Below wr.heap.size wr W) := hb.out
      have hgW : g < W.heap.size := Nat.lt_of_lt_of_le hgr HBW.out.size
      have hsW := HBW.out.size
      replace c0 := (HBW.out.cell (p := ⟨g, i * 4, none⟩) hgr).trans c0
      replace c1 := (HBW.out.cell (p := ⟨g, i * 4 + 1, none⟩) hgr).trans c1
      replace c2 := (HBW.out.cell (p := ⟨g, i * 4 + 2, none⟩) hgr).trans c2
      replace c3 := (HBW.out.cell (p := ⟨g, i * 4 + 3, none⟩) hgr).trans c3
      replace hfz := (HBW.out.frozen (p := ⟨g, i * 4 + 3, none⟩) hgr).trans hfz
      clear hb HC
      go_wp2_with (at_builtin; refine Stop.mk ?_)
      have HO : Hid ((W.setCell ⟨g, i * 4 + 3, none⟩ (.string q)).ownsRow w.heap.size 42 4 u3 i (nds (Q.take i))) := ownsRow_setCell_other (ownsRow_below HQ.out.own HBW.out (Nat.le_refl _)) (fun e => by have := (HQ.out.own.lt g e).1; omega) _
      refine Stop.out (app22 rfl (.tmp 21) (.tmp 26) rfl w.heap.size u3 i _ rfl (World.ownsRow.alloc HO.out _) ⟨W.heap.size, 0, none⟩ 1 1 ({ a with s := q } : Nd).cs rfl rfl (news_new (by simp) _ _) (cs_one _) (by decide) (by omega) (by rw [size_alloc]; simp; omega) ?_)
      intro g9 c9 W9 ho9 hg9 _ _
      have HI9 : Hid (∃ Q, TnI w g base L (i + 1) (.slice (some ⟨g9, 0, none⟩) (i + 1) c9) W9 Q) := ⟨_, HST.out W W9 _ q HBW.out _ ho9 hg9⟩
      clear ho9 hg9 HST HO HQ
      go_wp2
      go_roundw
      case rel => exact ⟨i + 1, by go_num, by omega, HI9⟩
      case measure => simp [intOf]; omega
    · obtain rfl : i = n := by omega
      have hI : ¬ (i : Int) < (i : Int) := by omega
      go_wp2
      go_ret
      exact ⟨_, rfl, HI⟩
end Go.Proofs.YtmocofmlehmneaaGreatDoor.Wk
