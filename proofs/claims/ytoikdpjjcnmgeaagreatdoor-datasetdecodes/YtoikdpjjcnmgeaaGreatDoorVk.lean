import Derived.Test.YtoikdpjjcnmgeaaGreatDoorVh
import Derived.Test.YtoikdpjjcnmgeaaGreatDoorVf
import Derived.Lib.QuietBelow
import Derived.Deep.RegionLawGrows
import Derived.Deep.AppendLies
/-
  DERIVED. Small questions of a reader; past a head and its value.
-/
namespace Go.Proofs.YtoikdpjjcnmgeaaGreatDoor
open Go Go.Proofs Go.RowKit
open Wk (Nd nds)
open Go.Sort

set_option maxRecDepth 100000 in
theorem depth_any (w : World) (rb m cap : Nat) (v : Option Addr) (hm : m ≤ 4000000) (c3 : w.cell? ⟨rb, 3, none⟩ = some (.slice v m cap)) : Calls Tryz.prog 95 #[.pointer (some ⟨rb, 0, none⟩)] w fun e w' => e = .returned (.int .i64 ((m / 2 : Nat) : Int)) ∧ w = w' := by
  have h1 : Int.tdiv (m : Int) 2 = ((m / 2 : Nat) : Int) := by rw [Int.tdiv_eq_ediv_of_nonneg (by omega)]; omega
  have h2 : IntKind.i64.wrap ((m / 2 : Nat) : Int) = ((m / 2 : Nat) : Int) := by rw [IntKind.wrap_i64]; omega
  have h3 : wrap64 ((m / 2 : Nat) : Int) = ((m / 2 : Nat) : Int) := by unfold wrap64; omega
  generalize m / 2 = d at h1 h2 h3 ⊢
  go_enter Tryz.func95, Tryz.ntmps95
  go_wp2
  go_ret
  exact ⟨rfl, rfl⟩
set_option maxRecDepth 100000 in
theorem group_any (w : World) (t : Nat) (ht : t < 4294967296) : Calls Tryz.prog 101 #[.int .u32 (t : Int)] w fun e w' => e = .returned (.bool (decide (t % 65536 = 0))) ∧ w = w' := by
  have hA : bits .and .u32 (t : Int) 65535 = ((t % 65536 : Nat) : Int) := by
    have := u32_and_nat t 65535 ht (by decide)
    rw [show ((65535 : Nat) : Int) = 65535 from rfl] at this
    rw [this, show (65535 : Nat) = 2 ^ 16 - 1 from rfl, Nat.and_two_pow_sub_one_eq_mod]
  have hB : (((t % 65536 : Nat) : Int) == 0) = decide (t % 65536 = 0) := by
    rw [show (((t % 65536 : Nat) : Int) == 0) = decide (((t % 65536 : Nat) : Int) = 0) from rfl]
    exact decide_eq_decide.2 (by omega)
  generalize t % 65536 = d at hA hB ⊢
  have HB : Hid _ := hB
  clear hB
  go_enter Tryz.func101, Tryz.ntmps101
  go_wp2
  go_ret
  exact ⟨by rw [← HB.out]; rfl, rfl⟩
set_option maxRecDepth 100000 in
theorem stand_any (w : World) (t : Nat) : Calls Tryz.prog 99 #[.int .u32 (t : Int)] w fun e w' => e = .returned (.bool (!isBar t)) ∧ w = w' := by
  have hs : ((t / 65536 : Nat) : Int) = (t : Int) / 65536 := by omega
  obtain ⟨R, hR⟩ : ∃ R, (!isBar t) = R := ⟨_, rfl⟩
  have HR : Hid _ := hR
  rw [hR]
  unfold isBar at HR
  clear hR
  by_cases h0 : t / 65536 = 0
  · have b0 : ((t : Int) / 65536 == 0) = true := beq_iff_eq.2 (by omega)
    have HR1 : Hid (R = false) := by show _ = _; rw [← HR.out]; simp [h0]
    clear HR h0 hs
    go_enter Tryz.func99, Tryz.ntmps99
    go_wp2
    go_ret
    exact ⟨by rw [HR1.out]; rfl, rfl⟩
  have b0 : ((t : Int) / 65536 == 0) = false := beq_eq_false_iff_ne.2 (by omega)
  by_cases h2 : t / 65536 = 2
  · have b2 : ((t : Int) / 65536 == 2) = true := beq_iff_eq.2 (by omega)
    have HR1 : Hid (R = false) := by show _ = _; rw [← HR.out]; simp [h2]
    clear HR h0 h2 hs
    go_enter Tryz.func99, Tryz.ntmps99
    go_wp2
    go_ret
    exact ⟨by rw [HR1.out]; rfl, rfl⟩
  have b2 : ((t : Int) / 65536 == 2) = false := beq_eq_false_iff_ne.2 (by omega)
  by_cases h3 : t / 65536 = 65534
  · have b3 : ((t : Int) / 65536 == 65534) = true := beq_iff_eq.2 (by omega)
    have HR1 : Hid (R = false) := by show _ = _; rw [← HR.out]; simp [h3]
    clear HR h0 h2 h3 hs
    go_enter Tryz.func99, Tryz.ntmps99
    go_wp2
    go_ret
    exact ⟨by rw [HR1.out]; rfl, rfl⟩
  have b3 : ((t : Int) / 65536 == 65534) = false := beq_eq_false_iff_ne.2 (by omega)
  by_cases h4 : t / 65536 = 65535
  · have b4 : ((t : Int) / 65536 == 65535) = true := beq_iff_eq.2 (by omega)
    have HR1 : Hid (R = false) := by show _ = _; rw [← HR.out]; simp [h4]
    clear HR h0 h2 h3 h4 hs
    go_enter Tryz.func99, Tryz.ntmps99
    go_wp2
    go_ret
    exact ⟨by rw [HR1.out]; rfl, rfl⟩
  have b4 : ((t : Int) / 65536 == 65535) = false := beq_eq_false_iff_ne.2 (by omega)
  have HR1 : Hid (R = true) := by show _ = _; rw [← HR.out]; simp [h0, h2, h3, h4]
  clear HR h0 h2 h3 h4 hs
  go_enter Tryz.func99, Tryz.ntmps99
  go_wp2
  go_ret
  exact ⟨by rw [HR1.out]; rfl, rfl⟩

set_option maxRecDepth 100000 in
set_option maxHeartbeats 2000000 in
theorem leave_any (w : World) (base rb k : Nat) (bv nv sv : Value) (M : List Nd) (st : List Sp) (v : Int) (len sz x : Nat) (hP : PR base rb bv w k M st nv sv) (hk : k ≤ 1048576) (hz : sz ≤ 12) (hl : len ≤ 1048576) :
    Calls Tryz.prog 102 #[.pointer (some ⟨rb, 0, none⟩), hdV v len sz x] w fun e w' => e = .returned (.tuple #[]) ∧ Hid (PR base rb bv w' (k + sz + len) M st nv sv) ∧ Hid (Below base w w') := by
  obtain ⟨W0, hW0⟩ : ∃ W0, w.alloc (.cells #[.int .i64 v, .int .u32 (len : Int), .int .i64 (sz : Int), .iface x (.agg #[])] 159) = W0 := ⟨_, rfl⟩
  have hb0 : Below w.heap.size w W0 := by rw [← hW0]; exact (Below.refl _ _).alloc (Nat.le_refl _) _
  have HH : Hid (HC W0 w.heap.size v len sz x) := by rw [← hW0]; exact HC.new w v len sz x
  have HP : Hid (PR base rb bv W0 k M st nv sv) := hP.on hb0
  obtain ⟨y0, y1, y2, y3⟩ := HH.out
  have c1 := HP.out.c1
  have f1 := HP.out.fz 1
  have hne : rb ≠ w.heap.size := Nat.ne_of_lt (Rp.cell_lt hP.c0)
  have hne' : w.heap.size ≠ rb := fun h => hne h.symm
  have e1 : IntKind.i64.wrap (len : Int) = (len : Int) := by rw [IntKind.wrap_i64]; omega
  have e2 : IntKind.i64.wrap ((sz : Int) + (len : Int)) = ((sz + len : Nat) : Int) := by rw [IntKind.wrap_i64]; omega
  have e3 : IntKind.i64.wrap ((k : Int) + ((sz + len : Nat) : Int)) = ((k + sz + len : Nat) : Int) := by rw [IntKind.wrap_i64]; omega
  have HB : Hid (base ≤ w.heap.size) := hP.lt
  unfold hdV
  go_enter Tryz.func102, Tryz.ntmps102
  go_wp2
  go_region
  have e4 : (k : Int) + ((sz : Int) + (len : Int)) = ((k + sz + len : Nat) : Int) := by omega
  rw [e4]
  refine bodyPost_end (results_none rfl _ _ _) rfl ⟨rfl, ?_, ?_⟩
  · exact (HP.out.setAt (k + sz + len)).on ((Below.refl _ _).drew)
  · exact (((hb0.mono HB.out).setCell (p := ⟨rb, 1, none⟩) HP.out.hb _).drew)
end Go.Proofs.YtoikdpjjcnmgeaaGreatDoor

/-
  DERIVED. The same nodes; lent nodes are as they were.
-/
namespace Go.Proofs.YtoikdpjjcnmgeaaGreatDoor.Wk
open Go Go.Proofs Go.RowKit Go.Sort

set_option maxRecDepth 100000 in
set_option maxHeartbeats 1000000 in
theorem nodes_same (w : World) (a1 a2 : Option Addr) (n c1 c2 : Nat) (L : List Nd) (h1 : NV w a1 n c1 L) (h2 : NV w a2 n c2 L) : Calls Tryz.prog 13 #[.slice a1 n c1, .slice a2 n c2] w fun e w' => e = .returned (.bool true) ∧ ∃ m, w' = w.drewN m := by
  have H1 : Hid (NV w a1 n c1 L) := h1
  have H2 : Hid (NV w a2 n c2 L) := h2
  have HN : Hid (n = L.length) := h1.len
  have hsm := h1.small
  clear h1 h2
  go_enter Tryz.func13, Tryz.ntmps13
  go_wp2
  go_loopw [5] (fun s5 wx => ∃ i : Nat, s5 = .int .i64 (i : Int) ∧ i ≤ n ∧ ∃ m, wx = w.drewN m) (fun s5 _ => n - (intOf s5).toNat)
  case atStart => exact ⟨0, rfl, by omega, 0, rfl⟩
  case round =>
    obtain ⟨i, rfl, hi22, m, rfl⟩ := hrel
    by_cases hin : i < n
    · have hil : i < L.length := by rw [← HN.out]; exact hin
      obtain ⟨b1, o1, rfl, l1⟩ := H1.out.lies (by omega)
      obtain ⟨b2, o2, rfl, l2⟩ := H2.out.lies (by omega)
      obtain ⟨a0, a1, a2, a3⟩ := l1 i hil
      obtain ⟨b0, b1', b2', b3⟩ := l2 i hil
      have hI : (i : Int) < (n : Int) := by omega
      generalize L[i]'hil = q at a0 a1 a2 a3 b0 b1' b2' b3
      clear l1 l2
      go_wp2
      go_quiet (fail)
      go_wp2
      go_roundw
      case rel => exact ⟨i + 1, by go_num, by omega, _, rfl⟩
      case measure => simp [intOf]; omega
    · obtain rfl : i = n := by omega
      have hI : ¬ (i : Int) < (i : Int) := by omega
      go_wp2
      go_ret
      exact ⟨rfl, _, rfl⟩

theorem NV.drw {w : World} {a : Option Addr} {n cap : Nat} {L : List Nd} (h : NV w a n cap L) (m : Nat) : NV (w.drewN m) a n cap L := h.on (below_drw (Below.refl _ _) m)
theorem Lent.nv {g base : Nat} {L : List Nd} {w : World} (h : Lent g L base w) (hs : L.length ≤ 3518437208780) (hz : ∀ x ∈ L, -9223372036854775808 ≤ x.n ∧ x.n ≤ 9223372036854775807) : NV w (some ⟨g, 0, none⟩) L.length (L.length + 1) L := by
  refine ⟨rfl, by omega, hs, fun _ => ⟨g, 0, rfl, fun i hi => ?_⟩, hz⟩
  have hg : ∀ k, k < 4 → w.cell? ⟨g, 0 + i * 4 + k, none⟩ = ((L[i]'hi).cs)[k]? := fun k hk => by
    rw [Nat.zero_add]
    refine (World.ownsRow.cellAt h (i * 4 + k) (by omega)).trans ?_
    rw [nds_get (L ++ [mrk]) i (by simp; omega) k hk, List.getElem_append_left hi]
  exact ⟨hg 0 (by decide), hg 1 (by decide), hg 2 (by decide), hg 3 (by decide)⟩
theorem Lent.mark {g base : Nat} {L : List Nd} {w : World} (h : Lent g L base w) : w.cell? ⟨g, L.length * 4, none⟩ = some (.int .u32 2882382797) ∧ w.cell? ⟨g, L.length * 4 + 1, none⟩ = some (.int .i64 0) ∧ w.cell? ⟨g, L.length * 4 + 2, none⟩ = some (.int .i64 7) ∧ w.cell? ⟨g, L.length * 4 + 3, none⟩ = some (.string ⟨#[109, 97, 114, 107]⟩) := by
  have hg : ∀ k, k < 4 → w.cell? ⟨g, L.length * 4 + k, none⟩ = (mrk.cs)[k]? := fun k hk => by
    refine (World.ownsRow.cellAt h (L.length * 4 + k) (by omega)).trans ?_
    rw [nds_get (L ++ [mrk]) L.length (by simp) k hk, List.getElem_append_right (Nat.le_refl _)]
    simp
  exact ⟨hg 0 (by decide), hg 1 (by decide), hg 2 (by decide), hg 3 (by decide)⟩
theorem hmix : Tryz.prog.follows .mixedOrders = true := by kernel_rfl

end Go.Proofs.YtoikdpjjcnmgeaaGreatDoor.Wk

/-
  DERIVED. Lists of lists of nodes, each in memory of its own.
-/
namespace Go.Proofs.YtoikdpjjcnmgeaaGreatDoor.Wk
open Go Go.Proofs Go.RowKit

theorem app22 {w : World} {ops : Array Oper} {rest : List Oper} {o : Oper} {a : Act} {Q : Exit → Act → World → Prop} (hgd : o.guard = none) (s x : Operand)
    (ho : o.op = .call { callee := .builtin .append, args := #[s, x], argTypes := #[25, 25] }) (base : Nat) (v : Value) (n : Nat) (xs : List Value) (hs : a.eval s = v) (hown : w.ownsRow base 54 4 v n xs)
    (ad : Addr) (m c : Nat) (news : List Value) (hx : a.eval x = .slice (some ad) m c) (hl : news.length = m * 4) (hnews : ∀ j u, news[j]? = some u → w.cell? (ad.add j) = some u) (h1 : ∀ u ∈ news, u.oneCell' = true) (hm : 0 < m) (hsm : n + m ≤ 3518437208883) (hbase : base ≤ w.heap.size)
    (h : ∀ g cap w', w'.ownsRow base 54 4 (.slice (some ⟨g, 0, none⟩) (n + m) cap) (n + m) (xs ++ news) → w.grownBy w' v.ownBlock → (v.ownBlock = some g ∨ g = w.heap.size) → g < w'.heap.size → wpList Tryz.prog ops Q rest (a.put o.dst (.slice (some ⟨g, 0, none⟩) (n + m) cap)) w') : wpList Tryz.prog ops Q (o :: rest) a w := by
  obtain ⟨i0, hi, hz0, hz1, hz2⟩ := info_parts info34
  exact wpList_append_lies w hgd s x 25 ho base 54 i0 _ 4 40 Tryz.underlying25 hi hz0 hz1 hz2 rfl (by decide) v n xs hs hown ad m c news hx hl hnews h1 hm (by unfold maxLen; omega) (by omega) hbase _ rfl h
/-- A copy of nodes, perhaps of none. -/
theorem copy22 {w : World} {ops : Array Oper} {rest : List Oper} {o : Oper} {a : Act} {Q : Exit → Act → World → Prop} (hgd : o.guard = none) (s x : Operand)
    (ho : o.op = .call { callee := .builtin .append, args := #[s, x], argTypes := #[25, 25] }) (hs : a.eval s = .slice none 0 0)
    (ad : Addr) (c : Nat) (M : List Nd) (hx : a.eval x = .slice (some ad) M.length c) (hnews : ∀ j u, (nds M)[j]? = some u → w.cell? (ad.add j) = some u) (hsm : M.length ≤ 10000000)
    (h : ∀ u w', w'.ownsRow w.heap.size 54 4 u M.length (nds M) → Below w.heap.size w w' → (M = [] → u = .slice none 0 0) → (M ≠ [] → ∃ g cap, u = .slice (some ⟨g, 0, none⟩) M.length cap) → wpList Tryz.prog ops Q rest (a.put o.dst u) w') : wpList Tryz.prog ops Q (o :: rest) a w := by
  obtain ⟨i0, hi, hz0, hz1, hz2⟩ := info_parts info34
  refine wpList_append_own w hgd s x 25 ho w.heap.size 54 i0 _ 4 40 Tryz.underlying25 hi hz0 hz1 hz2 rfl (by decide) (.slice none 0 0) 0 [] hs (World.ownsRow_nil _ _ _ _) ad M.length c (nds M) hx (nds_len M) hnews (nds_one M) (by unfold maxLen; omega) (by omega) (Nat.le_refl _) ?_
  intro v' w' ho' hg' hn'
  rw [Nat.zero_add] at ho'
  refine h v' w' ho' ((Below.refl _ _).grown hg' (Nat.le_refl _) (fun k hk => by cases hk)) (fun e => hn'.2 ⟨rfl, by rw [e]; rfl⟩) (fun e => ?_)
  rcases ho'.2 with ⟨hv, -⟩ | ⟨g, cap, cur, hv, -⟩
  · exact absurd (List.length_eq_zero_iff.1 (hn'.1 hv).2) e
  · exact ⟨g, cap, hv⟩

end Go.Proofs.YtoikdpjjcnmgeaaGreatDoor.Wk

/-
  DERIVED. What stays of a reader where a list of its own grows or is written.
-/
namespace Go.Proofs.YtoikdpjjcnmgeaaGreatDoor
open Go Go.Proofs Go.RowKit
open Wk (Nd nds)
open Go.Sort

theorem below_grown {base : Nat} {W W1 : World} {e : TypeId} {z : Nat} {v : Value} {n : Nat} {xs : List Value} (ho : W.ownsRow base e z v n xs) (hg : W.grownBy W1 v.ownBlock) (hb : base ≤ W.heap.size) : Below base W W1 :=
  ⟨hg.os, hg.tape, hg.output, hg.size, fun k hk => hg.block k (by omega) (fun e => by have := (ho.lt k e.symm).1; omega)⟩
/-- What holds of each block that is no row of this type. -/
theorem grown_other {base : Nat} {W W1 : World} {e : TypeId} {z : Nat} {v : Value} {n : Nat} {xs : List Value} (ho : W.ownsRow base e z v n xs) (hg : W.grownBy W1 v.ownBlock) {g : Nat} {cur : Array Value} {t : TypeId} (hc : W.heap[g]? = some (Obj.cells cur t)) (ht : t ≠ e) : W1.heap[g]? = W.heap[g]? :=
  hg.block g (Array.getElem?_eq_some_iff.1 hc).1 (fun e' => by
    rcases ho.2 with ⟨rfl, -⟩ | ⟨g', cap, cur', rfl, -, hh, -⟩
    · cases e'
    · cases e'
      rw [hc] at hh
      cases hh
      exact ht rfl)
theorem cell_block {W W1 : World} {g i : Nat} (h : W1.heap[g]? = W.heap[g]?) : W1.cell? ⟨g, i, none⟩ = W.cell? ⟨g, i, none⟩ := by
  simp [World.cell?, h]
theorem frozen_block {W W1 : World} {g i : Nat} (h : W1.heap[g]? = W.heap[g]?) : W1.frozen? ⟨g, i, none⟩ = W.frozen? ⟨g, i, none⟩ := by
  simp [World.frozen?, h]
/-- The list of nodes grew: all else of the reader stays. -/
theorem PR.grownN {base rb : Nat} {bv nv nv' sv : Value} {W W1 : World} {k : Nat} {M M' : List Nd} {st : List Sp} (h : PR base rb bv W k M st nv sv) (hg : W.grownBy W1 nv.ownBlock) (hn : W1.ownsRow base 54 4 nv' M'.length (nds M')) (hz : M'.length ≠ 0) :
    W1.cell? ⟨rb, 2, none⟩ = some nv ∧ W1.frozen? ⟨rb, 2, none⟩ = false ∧ PR base rb bv (W1.setCell ⟨rb, 2, none⟩ nv') k M' st nv' sv := by
  obtain ⟨cs, ht⟩ := h.ty
  have hr := grown_other h.nd hg ht (by decide)
  have c0 := (cell_block (i := 0) hr).trans h.c0
  have c1 := (cell_block (i := 1) hr).trans h.c1
  have c2 := (cell_block (i := 2) hr).trans h.c2
  have c3 := (cell_block (i := 3) hr).trans h.c3
  have hs : W1.ownsRow base 112 6 sv st.length (spc st) := own_same h.sp (fun g cur hc => grown_other h.nd hg hc (by decide))
  have fz : ∀ i, W1.frozen? ⟨rb, i, none⟩ = false := fun i => (frozen_block hr).trans (h.fz i)
  have hk : ∀ e : TypeId, e ≠ 115 → ∀ (g : Nat) (cur : Array Value), W1.heap[g]? = some (Obj.cells cur e) → (W1.setCell ⟨rb, 2, none⟩ nv').heap[g]? = W1.heap[g]? := fun e he g cur hgg => heap_setCell_other W1 ⟨rb, 2, none⟩ g nv' (fun hc => by
    have hc : g = rb := hc
    rw [hc, hr, ht] at hgg
    cases hgg
    exact he rfl)
  refine ⟨c2, fz 2, ⟨(Rp.cell_set_ne (by decide)).trans c0, (Rp.cell_set_ne (by decide)).trans c1, Rp.cell_set_eq c2, (Rp.cell_set_ne (by decide)).trans c3, fun i => by simpa using fz i, ty_set ⟨cs, hr.trans ht⟩, own_same hn (hk 54 (by decide)), own_same hs (hk 112 (by decide)), h.hb, fun e => absurd e hz⟩⟩
/-- The list of spans grew: all else of the reader stays. -/
theorem PR.grownS {base rb : Nat} {bv nv sv sv' : Value} {W W1 : World} {k : Nat} {M : List Nd} {st st' : List Sp} (h : PR base rb bv W k M st nv sv) (hg : W.grownBy W1 sv.ownBlock) (hn : W1.ownsRow base 112 6 sv' st'.length (spc st')) :
    W1.cell? ⟨rb, 3, none⟩ = some sv ∧ W1.frozen? ⟨rb, 3, none⟩ = false ∧ PR base rb bv (W1.setCell ⟨rb, 3, none⟩ sv') k M st' nv sv' := by
  obtain ⟨cs, ht⟩ := h.ty
  have hr := grown_other h.sp hg ht (by decide)
  have c0 := (cell_block (i := 0) hr).trans h.c0
  have c1 := (cell_block (i := 1) hr).trans h.c1
  have c2 := (cell_block (i := 2) hr).trans h.c2
  have c3 := (cell_block (i := 3) hr).trans h.c3
  have hs : W1.ownsRow base 54 4 nv M.length (nds M) := own_same h.nd (fun g cur hc => grown_other h.sp hg hc (by decide))
  have fz : ∀ i, W1.frozen? ⟨rb, i, none⟩ = false := fun i => (frozen_block hr).trans (h.fz i)
  have hk : ∀ e : TypeId, e ≠ 115 → ∀ (g : Nat) (cur : Array Value), W1.heap[g]? = some (Obj.cells cur e) → (W1.setCell ⟨rb, 3, none⟩ sv').heap[g]? = W1.heap[g]? := fun e he g cur hgg => heap_setCell_other W1 ⟨rb, 3, none⟩ g sv' (fun hc => by
    have hc : g = rb := hc
    rw [hc, hr, ht] at hgg
    cases hgg
    exact he rfl)
  refine ⟨c3, fz 3, ⟨(Rp.cell_set_ne (by decide)).trans c0, (Rp.cell_set_ne (by decide)).trans c1, (Rp.cell_set_ne (by decide)).trans c2, Rp.cell_set_eq c3, fun i => by simpa using fz i, ty_set ⟨cs, hr.trans ht⟩, own_same hs (hk 54 (by decide)), own_same hn (hk 112 (by decide)), h.hb, h.nz⟩⟩
/-- A cell of a row of nodes was written. -/
theorem PR.keepN {base rb : Nat} {bv nv sv : Value} {W W1 : World} {k : Nat} {M M' : List Nd} {st : List Sp} (h : PR base rb bv W k M st nv sv) (hg : W.grownBy W1 nv.ownBlock) (hn : W1.ownsRow base 54 4 nv M'.length (nds M')) (hl : M'.length = M.length) : PR base rb bv W1 k M' st nv sv := by
  obtain ⟨cs, ht⟩ := h.ty
  have hr := grown_other h.nd hg ht (by decide)
  exact ⟨(cell_block hr).trans h.c0, (cell_block hr).trans h.c1, (cell_block hr).trans h.c2, (cell_block hr).trans h.c3, fun i => (frozen_block hr).trans (h.fz i), ⟨cs, hr.trans ht⟩, hn, own_same h.sp (fun g cur hc => grown_other h.nd hg hc (by decide)), h.hb, fun e => h.nz (by omega)⟩
/-- A cell of a row of spans was written. -/
theorem PR.keepS {base rb : Nat} {bv nv sv : Value} {W W1 : World} {k : Nat} {M : List Nd} {st st' : List Sp} (h : PR base rb bv W k M st nv sv) (hg : W.grownBy W1 sv.ownBlock) (hn : W1.ownsRow base 112 6 sv st'.length (spc st')) : PR base rb bv W1 k M st' nv sv := by
  obtain ⟨cs, ht⟩ := h.ty
  have hr := grown_other h.sp hg ht (by decide)
  exact ⟨(cell_block hr).trans h.c0, (cell_block hr).trans h.c1, (cell_block hr).trans h.c2, (cell_block hr).trans h.c3, fun i => (frozen_block hr).trans (h.fz i), ⟨cs, hr.trans ht⟩, own_same h.nd (fun g cur hc => grown_other h.sp hg hc (by decide)), hn, h.hb, h.nz⟩

theorem nds_setN' : ∀ (L : List Nd) (i : Nat) (h : i < L.length) (z : Int), (nds L).set (i * 4 + 2) (.int .i64 z) = nds (L.set i { (L[i]'h) with n := z })
  | [], i, h, _ => by simp at h
  | a :: L, 0, h, z => by simp [nds, Nd.cs, List.flatMap_cons]
  | a :: L, i + 1, h, z => by
    have ih := nds_setN' L i (by simpa using h) z
    simp only [nds, List.flatMap_cons, List.set_cons_succ, List.getElem_cons_succ] at ih ⊢
    rw [List.set_append_right _ _ (by simp [Nd.cs]; omega), ← ih]
    congr 2
    simp [Nd.cs]; omega
theorem bump_set {M : List Nd} {p : Nat} (h : p < M.length) : bump M (some p) 1 = M.set p { (M[p]'h) with n := (M[p]'h).n + 1 } := by
  unfold bump
  show M.modify p _ = _
  refine List.ext_getElem? fun j => ?_
  rw [List.getElem?_modify, List.getElem?_set]
  by_cases hj : p = j
  · subst hj
    simp [h]
  · rw [if_neg hj]
    cases M[j]? with
    | none => rfl
    | some a => show some (if p = j then _ else a) = some a; rw [if_neg hj]
end Go.Proofs.YtoikdpjjcnmgeaaGreatDoor

/-
  DERIVED. A node put behind the others.
-/
namespace Go.Proofs.YtoikdpjjcnmgeaaGreatDoor
open Go Go.Proofs Go.RowKit
open Wk (Nd nds)
open Go.Sort

/-- A row's value has its length. -/
theorem own_form {W : World} {base : Nat} {e : TypeId} {z : Nat} {v : Value} {n : Nat} {xs : List Value} (h : W.ownsRow base e z v n xs) : ∃ a cap, v = .slice a n cap ∧ (0 < n → ∃ g, a = some ⟨g, 0, none⟩ ∧ n ≤ cap) := by
  rcases h.2 with ⟨rfl, rfl⟩ | ⟨g, cap, cur, rfl, _, _, hc, _⟩
  · exact ⟨none, 0, rfl, fun h => absurd h (by omega)⟩
  · exact ⟨_, cap, rfl, fun _ => ⟨g, rfl, hc⟩⟩
/-- Heads in memory stay. -/
def Kp (w w' : World) : Prop := ∀ (g : Nat) (cur : Array Value), w.heap[g]? = some (Obj.cells cur 159) → w'.heap[g]? = w.heap[g]?
theorem Kp.trans {w w' w'' : World} (h : Kp w w') (h2 : Kp w' w'') : Kp w w'' := fun g cur hg => (h2 g cur ((h g cur hg).trans hg)).trans (h g cur hg)
theorem Kp.of {w w' : World} (h : Below w.heap.size w w') : Kp w w' := fun g _ hg => h.block g (Array.getElem?_eq_some_iff.1 hg).1
theorem Kp.grown {base : Nat} {W W1 : World} {e : TypeId} {z : Nat} {v : Value} {n : Nat} {xs : List Value} (ho : W.ownsRow base e z v n xs) (hg : W.grownBy W1 v.ownBlock) (he : e ≠ 159) : Kp W W1 := fun _ _ hc => grown_other ho hg hc (fun h => he h.symm)
theorem Kp.set {W : World} {rb i : Nat} {v : Value} {t : TypeId} (h : ∃ cs, W.heap[rb]? = some (Obj.cells cs t)) (ht : t ≠ 159) : Kp W (W.setCell ⟨rb, i, none⟩ v) := fun g cur hg => heap_setCell_other W ⟨rb, i, none⟩ g v (fun hc => by
  have hc : g = rb := hc
  obtain ⟨cs, h⟩ := h
  rw [hc, h] at hg
  cases hg
  exact ht rfl)
/-- What is told of a node that is put behind. -/
def AddP (base rb : Nat) (bv : Value) (w : World) (k : Nat) (M : List Nd) (M' : List Nd) (st : List Sp) (sv : Value) (e : Ending) (w' : World) : Prop :=
  (if M.length = 4096 then Pan w' k 127 e else e = .returned (.tuple #[]) ∧ ∃ nv', PR base rb bv w' k M' st nv' sv) ∧ Below base w w' ∧ Kp w w'

set_option maxRecDepth 100000 in
set_option maxHeartbeats 4000000 in
theorem add_none (w : World) (base rb : Nat) (bv : Value) (n k : Nat) (M : List Nd) (sp : Sp) (r : List Sp) (nv : Value) (g sc : Nat) (t : Int) (v : Int) (s : ByteArray) (hP : PR base rb bv w k M (sp :: r) nv (.slice (some ⟨g, 0, none⟩) (r.length + 1) sc)) (hI : PI n k M (sp :: r)) (hn : n ≤ 1048576) (hm : M.length ≠ 4096) (hnode : sp.node = none) :
    Calls Tryz.prog 97 #[.pointer (some ⟨rb, 0, none⟩), .agg #[.int .u32 t, .int .i64 v, .int .i64 0, .string s]] w (AddP base rb bv w k M (bump M sp.node 1 ++ [⟨t, v, 0, s⟩]) (sp :: r) (.slice (some ⟨g, 0, none⟩) (r.length + 1) sc)) := by
  obtain ⟨W0, hW0⟩ : ∃ W0, w.alloc (.cells #[.int .u32 t, .int .i64 v, .int .i64 0, .string s] 54) = W0 := ⟨_, rfl⟩
  have hb0 : Below w.heap.size w W0 := by rw [← hW0]; exact (Below.refl _ _).alloc (Nat.le_refl _) _
  have hP0 := hP.on hb0
  have y : W0.cell? ⟨w.heap.size, 0, none⟩ = some (.int .u32 t) ∧ W0.cell? ⟨w.heap.size, 1, none⟩ = some (.int .i64 v) ∧ W0.cell? ⟨w.heap.size, 2, none⟩ = some (.int .i64 0) ∧ W0.cell? ⟨w.heap.size, 3, none⟩ = some (.string s) := by
    rw [← hW0]; exact ⟨by simp, by simp, by simp, by simp⟩
  obtain ⟨y0, y1, y2, y3⟩ := y
  have hl := hI.ln
  obtain ⟨hk, hf⟩ := hI.le
  simp only [List.length_cons] at hl
  obtain ⟨na, ncap, rfl, hna⟩ := own_form hP.nd
  have hml := hI.mo.l
  have c2 := hP0.c2
  have cI := inner_any W0 rb g r.length sc (by omega) hP0.c3
  obtain ⟨s0, -⟩ := hP0.sc
  have b1 : ((M.length : Int) == 4096) = false := beq_eq_false_iff_ne.2 (by omega)
  have HP0 : Hid _ := hP0
  have HB : Hid (base ≤ w.heap.size) := hP.lt
  have HM : Hid (M.length ≠ 4096 ∧ M.length ≤ 4096) := ⟨hm, hml⟩
  have HMS : Hid (M.length ≠ 4096) := hm
  rw [hnode] at s0 ⊢
  obtain ⟨L, hL⟩ : ∃ L, M.length = L := ⟨_, rfl⟩
  obtain ⟨m, hmm⟩ : ∃ m, r.length = m := ⟨_, rfl⟩
  have HL : Hid _ := hL
  rw [hL] at c2 b1 HM HP0
  rw [hmm] at cI s0
  obtain ⟨i0, hi, hz0, hz1, hz2⟩ := info_parts Wk.info34
  clear hP hP0 hI hm hn hk hf hl hml hmm
  go_enter Tryz.func97, Tryz.ntmps97
  go_wp2_with (go_at_call 57; refine StopV.out ?_)
  refine ⟨Calls.mono cI ?_⟩
  rintro e W1 ⟨rfl, hb1⟩
  have s01 : W1.cell? ⟨g, m * 6, none⟩ = some (.int .i64 (-1)) := (hb1.cell (Rp.cell_lt s0)).trans s0
  have c21 := (hb1.cell (Rp.cell_lt c2)).trans c2
  have HP1 : Hid _ := HP0.out.on hb1
  have z0 := (hb1.cell (Rp.cell_lt y0)).trans y0
  have z1 := (hb1.cell (Rp.cell_lt y1)).trans y1
  have z2 := (hb1.cell (Rp.cell_lt y2)).trans y2
  have z3 := (hb1.cell (Rp.cell_lt y3)).trans y3
  clear y0 y1 y2 y3 s0 c2 cI HP0
  clear hna
  go_wp2
  have HW4 : Hid (∀ (X W4 : World) (g4 c4 : Nat), Below W1.heap.size W1 X → X.grownBy W4 (Value.slice na L ncap).ownBlock → W4.ownsRow base 54 4 (.slice (some ⟨g4, 0, none⟩) (L + 1) c4) (L + 1) (nds M ++ [.int .u32 t, .int .i64 v, .int .i64 0, .string s]) →
      W4.cell? ⟨rb, 2, none⟩ = some (.slice na L ncap) ∧ W4.frozen? ⟨rb, 2, none⟩ = false ∧ PR base rb bv (W4.setCell ⟨rb, 2, none⟩ (.slice (some ⟨g4, 0, none⟩) (L + 1) c4)) k (M ++ [⟨t, v, 0, s⟩]) (sp :: r) (.slice (some ⟨g4, 0, none⟩) (L + 1) c4) (.slice (some ⟨g, 0, none⟩) (r.length + 1) sc) ∧ Below base w (W4.setCell ⟨rb, 2, none⟩ (.slice (some ⟨g4, 0, none⟩) (L + 1) c4)) ∧ Kp w (W4.setCell ⟨rb, 2, none⟩ (.slice (some ⟨g4, 0, none⟩) (L + 1) c4))) := by
    intro X W4 g4 c4 hX hg ho
    have hPX := HP1.out.on hX
    have hn' : W4.ownsRow base 54 4 (.slice (some ⟨g4, 0, none⟩) (L + 1) c4) (M ++ [(⟨t, v, 0, s⟩ : Nd)]).length (nds (M ++ [(⟨t, v, 0, s⟩ : Nd)])) := by
      rw [List.length_append, HL.out, Wk.nds_append]
      exact ho
    obtain ⟨a, b, c⟩ := hPX.grownN hg hn' (by rw [List.length_append]; simp)
    have hbx : Below base w X := ((hb0.mono HB.out).trans (hb1.mono (Nat.le_trans HB.out hb0.size))).trans (hX.mono HP1.out.lt)
    exact ⟨a, b, c, (hbx.trans (below_grown hPX.nd hg hPX.lt)).setCell (p := ⟨rb, 2, none⟩) hPX.hb _, ((((Kp.of hb0).trans (Kp.of hb1)).trans (Kp.of hX)).trans (Kp.grown hPX.nd hg (by decide))).trans (Kp.set (by obtain ⟨cs, ht⟩ := hPX.ty; exact ⟨cs, (grown_other hPX.nd hg ht (by decide)).trans ht⟩) (by decide))⟩
  have HO : Hid (∀ o, (W1.alloc o).ownsRow base 54 4 (.slice na L ncap) L (nds M)) := fun o => by
    have := HP1.out.nd
    rw [HL.out] at this
    exact World.ownsRow.alloc this o
  have HBS : Hid (∀ o, base ≤ (W1.alloc o).heap.size) := fun o => Nat.le_trans HP1.out.lt (by simp)
  have h63 : L + 1 ≤ maxLen := by have := HM.out.2; unfold maxLen; omega
  have hby : (L + 1) * 40 ≤ 140737488355328 := by have := HM.out.2; omega
  have c2a : ∀ o, (W1.alloc o).cell? ⟨rb, 2, none⟩ = some (.slice na L ncap) := fun o => (((Below.refl _ W1).alloc (Nat.le_refl _) o).cell (Rp.cell_lt c21)).trans c21
  clear hb1 s01 HP1
  go_region_law (go_loud (refine step_append_lies _ rfl (.tmp 35) (.tmp 37) 25 rfl base 54 i0 _ 4 40 Tryz.underlying25 hi hz0 hz1 hz2 rfl (by decide) (.slice na L ncap) L (nds M) (by simp [Act.eval]) (HO.out _) ⟨W1.heap.size, 0, none⟩ 1 1 [.int .u32 t, .int .i64 v, .int .i64 0, .string s] (by simp [Act.eval]) rfl (World.news_of_block (heap_alloc_new W1 _)) (by intro u hu; simp at hu; rcases hu with rfl | rfl | rfl | rfl <;> rfl) (by decide) h63 hby (HBS.out _) _ rfl ?_; intro g4 c4 W4 hown4 hgrow4 hat4 hlt4; obtain ⟨q2, f2, HPN, HBN, HKN⟩ := HW4.out _ W4 g4 c4 (((Below.refl _ W1).alloc (Nat.le_refl _) _).drew) hgrow4 hown4; clear hown4 hgrow4 hat4 hlt4))
  all_goals exact bodyPost_end (results_none rfl _ _ _) rfl ⟨by rw [if_neg HMS.out]; exact ⟨rfl, _, HPN⟩, HBN, HKN⟩
set_option maxRecDepth 100000 in
set_option maxHeartbeats 4000000 in
theorem add_some (w : World) (base rb : Nat) (bv : Value) (n k : Nat) (M : List Nd) (sp : Sp) (r : List Sp) (nv : Value) (g sc : Nat) (t : Int) (v : Int) (s : ByteArray) (hP : PR base rb bv w k M (sp :: r) nv (.slice (some ⟨g, 0, none⟩) (r.length + 1) sc)) (hI : PI n k M (sp :: r)) (hn : n ≤ 1048576) (hm : M.length ≠ 4096) (p : Nat) (hnode : sp.node = some p) :
    Calls Tryz.prog 97 #[.pointer (some ⟨rb, 0, none⟩), .agg #[.int .u32 t, .int .i64 v, .int .i64 0, .string s]] w (AddP base rb bv w k M (bump M sp.node 1 ++ [⟨t, v, 0, s⟩]) (sp :: r) (.slice (some ⟨g, 0, none⟩) (r.length + 1) sc)) := by
  obtain ⟨W0, hW0⟩ : ∃ W0, w.alloc (.cells #[.int .u32 t, .int .i64 v, .int .i64 0, .string s] 54) = W0 := ⟨_, rfl⟩
  have hb0 : Below w.heap.size w W0 := by rw [← hW0]; exact (Below.refl _ _).alloc (Nat.le_refl _) _
  have hP0 := hP.on hb0
  have y : W0.cell? ⟨w.heap.size, 0, none⟩ = some (.int .u32 t) ∧ W0.cell? ⟨w.heap.size, 1, none⟩ = some (.int .i64 v) ∧ W0.cell? ⟨w.heap.size, 2, none⟩ = some (.int .i64 0) ∧ W0.cell? ⟨w.heap.size, 3, none⟩ = some (.string s) := by
    rw [← hW0]; exact ⟨by simp, by simp, by simp, by simp⟩
  obtain ⟨y0, y1, y2, y3⟩ := y
  have hl := hI.ln
  obtain ⟨hk, hf⟩ := hI.le
  simp only [List.length_cons] at hl
  obtain ⟨na, ncap, rfl, hna⟩ := own_form hP.nd
  have hml := hI.mo.l
  have c2 := hP0.c2
  have cI := inner_any W0 rb g r.length sc (by omega) hP0.c3
  obtain ⟨s0, -⟩ := hP0.sc
  have b1 : ((M.length : Int) == 4096) = false := beq_eq_false_iff_ne.2 (by omega)
  have HP0 : Hid _ := hP0
  have HB : Hid (base ≤ w.heap.size) := hP.lt
  have HM : Hid (M.length ≠ 4096 ∧ M.length ≤ 4096) := ⟨hm, hml⟩
  have HMS : Hid (M.length ≠ 4096) := hm
  rw [hnode] at s0 ⊢
  have hp := hI.nd sp List.mem_cons_self p hnode
  obtain ⟨gn, rfl, hnc⟩ := hna (by omega)
  have hnp := hI.mo.a (M[p]'hp) (List.getElem_mem hp)
  have hn0 := hnp.n0
  have hn1 := hnp.n1
  obtain ⟨z, hz⟩ : ∃ z, (M[p]'hp).n = z := ⟨_, rfl⟩
  have d2 : W0.cell? ⟨gn, p * 4 + 2, none⟩ = some (.int .i64 z) := by
    have := (World.ownsRow.cellAt hP0.nd (p * 4 + 2) (by omega)).trans (Wk.nds_get M p hp 2 (by decide))
    rw [this, ← hz]
    rfl
  have fn := World.ownsRow.frozenAt hP0.nd (p * 4 + 2)
  have HBM : Hid (bump M (some p) 1 = M.set p { (M[p]'hp) with n := (M[p]'hp).n + 1 }) := bump_set hp
  have HNE : Hid (gn ≠ w.heap.size) := Nat.ne_of_lt (World.ownsRow.lt hP.nd gn rfl).2
  have HDN : Hid (∀ W, PR base rb bv W k M (sp :: r) (.slice (some ⟨gn, 0, none⟩) M.length ncap) (.slice (some ⟨g, 0, none⟩) (r.length + 1) sc) → PR base rb bv (W.setCell ⟨gn, p * 4 + 2, none⟩ (.int .i64 (z + 1))) k (bump M (some p) 1) (sp :: r) (.slice (some ⟨gn, 0, none⟩) M.length ncap) (.slice (some ⟨g, 0, none⟩) (r.length + 1) sc) ∧ Below base W (W.setCell ⟨gn, p * 4 + 2, none⟩ (.int .i64 (z + 1))) ∧ Kp W (W.setCell ⟨gn, p * 4 + 2, none⟩ (.int .i64 (z + 1)))) := fun W hW => by
    obtain ⟨a, b⟩ := World.ownsRow.stored hW.nd (p * 4 + 2) (.int .i64 (z + 1))
    rw [nds_setN' M p hp (z + 1), ← hz, ← HBM.out] at a
    refine ⟨hW.keepN (by rw [← hz] at b; exact hz ▸ b) (by rw [bump_len, ← hz]; exact a) (bump_len _ _ _), below_grown hW.nd b hW.lt, Kp.grown hW.nd b (by decide)⟩
  rw [hz] at hn0 hn1
  obtain ⟨L, hL⟩ : ∃ L, M.length = L := ⟨_, rfl⟩
  obtain ⟨m, hmm⟩ : ∃ m, r.length = m := ⟨_, rfl⟩
  have HL : Hid _ := hL
  rw [hL] at c2 b1 HM HP0 HDN hp hnc hn1
  rw [hmm] at cI s0
  obtain ⟨i0, hi, hz0, hz1, hz2⟩ := info_parts Wk.info34
  clear hP hP0 hI hm hn hk hf hl hml hmm
  go_enter Tryz.func97, Tryz.ntmps97
  go_wp2_with (go_at_call 57; refine StopV.out ?_)
  refine ⟨Calls.mono cI ?_⟩
  rintro e W1 ⟨rfl, hb1⟩
  have s01 : W1.cell? ⟨g, m * 6, none⟩ = some (.int .i64 (p : Int)) := (hb1.cell (Rp.cell_lt s0)).trans s0
  have c21 := (hb1.cell (Rp.cell_lt c2)).trans c2
  have HP1 : Hid _ := HP0.out.on hb1
  have z0 := (hb1.cell (Rp.cell_lt y0)).trans y0
  have z1 := (hb1.cell (Rp.cell_lt y1)).trans y1
  have z2 := (hb1.cell (Rp.cell_lt y2)).trans y2
  have z3 := (hb1.cell (Rp.cell_lt y3)).trans y3
  clear y0 y1 y2 y3 s0 c2 cI HP0
  have d21 := (hb1.cell (Rp.cell_lt d2)).trans d2
  have fn1 : W1.frozen? ⟨gn, p * 4 + 2, none⟩ = false := (hb1.frozen (p := ⟨gn, p * 4 + 2, none⟩) (Rp.cell_lt d2)).trans fn
  obtain ⟨W2, hW2⟩ : ∃ W2, W1.setCell ⟨gn, p * 4 + 2, none⟩ (.int .i64 (z + 1)) = W2 := ⟨_, rfl⟩
  have hwz : IntKind.i64.wrap (z + 1) = z + 1 := by rw [IntKind.wrap_i64]; have := HM.out.2; omega
  have hpL : (p : Int) < (L : Int) := by omega
  have hpi : ((p : Int) == -1) = false := beq_eq_false_iff_ne.2 (by omega)
  have hpi2 : ((p : Int) != -1) = true := bne_iff_ne.2 (by omega)
  have HP2 : Hid (PR base rb bv W2 k (bump M (some p) 1) (sp :: r) (.slice (some ⟨gn, 0, none⟩) L ncap) (.slice (some ⟨g, 0, none⟩) (r.length + 1) sc)) := by rw [← hW2]; exact (HDN.out W1 HP1.out).1
  have HB2 : Hid (Below base W1 W2) := by rw [← hW2]; exact (HDN.out W1 HP1.out).2.1
  have HK2 : Hid (Kp W1 W2) := by rw [← hW2]; exact (HDN.out W1 HP1.out).2.2
  have HL2 : Hid ((bump M (some p) 1).length = L) := by show _ = _; rw [bump_len, HL.out]
  have c22 := HP2.out.c2
  have x0 : W2.cell? ⟨w.heap.size, 0, none⟩ = some (.int .u32 t) := by rw [← hW2]; exact (Rp.cell_set_off HNE.out).trans z0
  have x1 : W2.cell? ⟨w.heap.size, 1, none⟩ = some (.int .i64 v) := by rw [← hW2]; exact (Rp.cell_set_off HNE.out).trans z1
  have x2 : W2.cell? ⟨w.heap.size, 2, none⟩ = some (.int .i64 0) := by rw [← hW2]; exact (Rp.cell_set_off HNE.out).trans z2
  have x3 : W2.cell? ⟨w.heap.size, 3, none⟩ = some (.string s) := by rw [← hW2]; exact (Rp.cell_set_off HNE.out).trans z3
  clear d2 fn HDN hp hnc hn1 hn0 hnode HBM
  obtain ⟨M1, hM1⟩ : ∃ M1, bump M (some p) 1 = M1 := ⟨_, rfl⟩
  have HM1 : Hid _ := hM1
  rw [hM1] at HP2 HL2
  clear hM1
  go_wp2
  have HW4 : Hid (∀ (X W4 : World) (g4 c4 : Nat), Below W2.heap.size W2 X → X.grownBy W4 (Value.slice (some ⟨gn, 0, none⟩) L ncap).ownBlock → W4.ownsRow base 54 4 (.slice (some ⟨g4, 0, none⟩) (L + 1) c4) (L + 1) (nds M1 ++ [.int .u32 t, .int .i64 v, .int .i64 0, .string s]) →
      W4.cell? ⟨rb, 2, none⟩ = some (.slice (some ⟨gn, 0, none⟩) L ncap) ∧ W4.frozen? ⟨rb, 2, none⟩ = false ∧ PR base rb bv (W4.setCell ⟨rb, 2, none⟩ (.slice (some ⟨g4, 0, none⟩) (L + 1) c4)) k (M1 ++ [⟨t, v, 0, s⟩]) (sp :: r) (.slice (some ⟨g4, 0, none⟩) (L + 1) c4) (.slice (some ⟨g, 0, none⟩) (r.length + 1) sc) ∧ Below base w (W4.setCell ⟨rb, 2, none⟩ (.slice (some ⟨g4, 0, none⟩) (L + 1) c4)) ∧ Kp w (W4.setCell ⟨rb, 2, none⟩ (.slice (some ⟨g4, 0, none⟩) (L + 1) c4))) := by
    intro X W4 g4 c4 hX hg ho
    have hPX := HP2.out.on hX
    have hn' : W4.ownsRow base 54 4 (.slice (some ⟨g4, 0, none⟩) (L + 1) c4) (M1 ++ [(⟨t, v, 0, s⟩ : Nd)]).length (nds (M1 ++ [(⟨t, v, 0, s⟩ : Nd)])) := by
      rw [List.length_append, HL2.out, Wk.nds_append]
      exact ho
    obtain ⟨a, b, c⟩ := hPX.grownN hg hn' (by rw [List.length_append]; simp)
    have hbx : Below base w X := (((hb0.mono HB.out).trans (hb1.mono (Nat.le_trans HB.out hb0.size))).trans HB2.out).trans (hX.mono HP2.out.lt)
    exact ⟨a, b, c, (hbx.trans (below_grown hPX.nd hg hPX.lt)).setCell (p := ⟨rb, 2, none⟩) hPX.hb _, (((((Kp.of hb0).trans (Kp.of hb1)).trans HK2.out).trans (Kp.of hX)).trans (Kp.grown hPX.nd hg (by decide))).trans (Kp.set (by obtain ⟨cs, ht⟩ := hPX.ty; exact ⟨cs, (grown_other hPX.nd hg ht (by decide)).trans ht⟩) (by decide))⟩
  have HO : Hid (∀ o, (W2.alloc o).ownsRow base 54 4 (.slice (some ⟨gn, 0, none⟩) L ncap) L (nds M1)) := fun o => by
    have := HP2.out.nd
    rw [HL2.out] at this
    exact World.ownsRow.alloc this o
  have HBS : Hid (∀ o, base ≤ (W2.alloc o).heap.size) := fun o => Nat.le_trans HP2.out.lt (by simp)
  have h63 : L + 1 ≤ maxLen := by have := HM.out.2; unfold maxLen; omega
  have hby : (L + 1) * 40 ≤ 140737488355328 := by have := HM.out.2; omega
  have c2a : ∀ o, (W2.alloc o).cell? ⟨rb, 2, none⟩ = some (.slice (some ⟨gn, 0, none⟩) L ncap) := fun o => (((Below.refl _ W2).alloc (Nat.le_refl _) o).cell (Rp.cell_lt c22)).trans c22
  clear hb1 s01 HP1 HP2 HB2 HK2 d21 fn1 z0 z1 z2 z3 hW2
  go_region_law (go_loud (refine step_append_lies _ rfl (.tmp 35) (.tmp 37) 25 rfl base 54 i0 _ 4 40 Tryz.underlying25 hi hz0 hz1 hz2 rfl (by decide) (.slice (some ⟨gn, 0, none⟩) L ncap) L (nds M1) (by simp [Act.eval]) (HO.out _) ⟨W2.heap.size, 0, none⟩ 1 1 [.int .u32 t, .int .i64 v, .int .i64 0, .string s] (by simp [Act.eval]) rfl (World.news_of_block (heap_alloc_new W2 _)) (by intro u hu; simp at hu; rcases hu with rfl | rfl | rfl | rfl <;> rfl) (by decide) h63 hby (HBS.out _) _ rfl ?_; intro g4 c4 W4 hown4 hgrow4 hat4 hlt4; obtain ⟨q2, f2, HPN, HBN, HKN⟩ := HW4.out _ W4 g4 c4 (((Below.refl _ W2).alloc (Nat.le_refl _) _).drew) hgrow4 hown4; clear hown4 hgrow4 hat4 hlt4))
  all_goals exact bodyPost_end (results_none rfl _ _ _) rfl ⟨by rw [if_neg HMS.out, HM1.out]; exact ⟨rfl, _, HPN⟩, HBN, HKN⟩
set_option maxRecDepth 100000 in
set_option maxHeartbeats 4000000 in
theorem add_full (w : World) (base rb : Nat) (bv : Value) (k : Nat) (M : List Nd) (sp : Sp) (r : List Sp) (nv : Value) (g sc : Nat) (t : Int) (v : Int) (s : ByteArray) (hP : PR base rb bv w k M (sp :: r) nv (.slice (some ⟨g, 0, none⟩) (r.length + 1) sc)) (hm : M.length = 4096) :
    Calls Tryz.prog 97 #[.pointer (some ⟨rb, 0, none⟩), .agg #[.int .u32 t, .int .i64 v, .int .i64 0, .string s]] w (AddP base rb bv w k M (bump M sp.node 1 ++ [⟨t, v, 0, s⟩]) (sp :: r) (.slice (some ⟨g, 0, none⟩) (r.length + 1) sc)) := by
  obtain ⟨W0, hW0⟩ : ∃ W0, w.alloc (.cells #[.int .u32 t, .int .i64 v, .int .i64 0, .string s] 54) = W0 := ⟨_, rfl⟩
  have hb0 : Below w.heap.size w W0 := by rw [← hW0]; exact (Below.refl _ _).alloc (Nat.le_refl _) _
  have hP0 := hP.on hb0
  obtain ⟨na, ncap, rfl, hna⟩ := own_form hP.nd
  have c2 := hP0.c2
  have cG := giveUp_any W0 rb k 127 hP0.c1
  have HB : Hid (base ≤ w.heap.size) := hP.lt
  have HMS : Hid (M.length = 4096) := hm
  rw [hm] at c2
  clear hP hP0 hm hna
  go_enter Tryz.func97, Tryz.ntmps97
  go_wp2_with (go_at_call 93; refine StopV.out ?_)
  refine ⟨Calls.mono cG ?_⟩
  rintro e W2 ⟨⟨q, rfl, hc⟩, HB2⟩
  exact ⟨rfl, by rw [if_pos HMS.out]; exact ⟨q, rfl, hc⟩, (hb0.mono HB.out).trans (HB2.out.mono (Nat.le_trans HB.out hb0.size)), (Kp.of hb0).trans (Kp.of HB2.out)⟩
theorem add_any (w : World) (base rb : Nat) (bv : Value) (n k : Nat) (M : List Nd) (sp : Sp) (r : List Sp) (nv : Value) (g sc : Nat) (t : Int) (v : Int) (s : ByteArray) (hP : PR base rb bv w k M (sp :: r) nv (.slice (some ⟨g, 0, none⟩) (r.length + 1) sc)) (hI : PI n k M (sp :: r)) (hn : n ≤ 1048576) :
    Calls Tryz.prog 97 #[.pointer (some ⟨rb, 0, none⟩), .agg #[.int .u32 t, .int .i64 v, .int .i64 0, .string s]] w (AddP base rb bv w k M (bump M sp.node 1 ++ [⟨t, v, 0, s⟩]) (sp :: r) (.slice (some ⟨g, 0, none⟩) (r.length + 1) sc)) := by
  by_cases hm : M.length = 4096
  · exact add_full w base rb bv k M sp r nv g sc t v s hP hm
  · rcases hnode : sp.node with _ | p
    · have := add_none w base rb bv n k M sp r nv g sc t v s hP hI hn hm hnode
      rw [hnode] at this
      exact this
    · have := add_some w base rb bv n k M sp r nv g sc t v s hP hI hn hm p hnode
      rw [hnode] at this
      exact this
end Go.Proofs.YtoikdpjjcnmgeaaGreatDoor
