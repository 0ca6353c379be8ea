import Derived.Test.YtoikdpjjcnmgeaaGreatDoorVh
import Derived.Test.YtoikdpjjcnmgeaaGreatDoorVf
import Derived.Lib.QuietBelow
import Derived.Deep.RegionLawGrows
import Derived.Deep.AppendLies
section
/-
  DERIVED. Small questions of a reader; past a head and its value.
-/
namespace Go.Proofs.YtoikdpjjcnmgeaaGreatDoor
open Go Go.Proofs Go.RowKit
open Wk (Nd nds)
open Go.Sort

set_option maxRecDepth 100000 in
theorem depth_any (w : World) (rb m cap : Nat) (v : Option Addr) (hm : m ≤ 4000000) (c3 : w.cell? ⟨rb, 3, none⟩ = some (.slice v m cap)) : Calls Tryz.prog 95 #[.pointer (some ⟨rb, 0, none⟩)] w fun e w' => e = .returned (.int .i64 ((m / 2 : Nat) : Int)) ∧ w = w' := by
  have h1 : Int.tdiv (m : Int) 2 = ((m / 2 : Nat) : Int) := by rw [Int.tdiv_eq_ediv_of_nonneg (by omega)]; omega
  have h2 : IntKind.i64.wrap ((m / 2 : Nat) : Int) = ((m / 2 : Nat) : Int) := by rw [IntKind.wrap_i64]; omega
  have h3 : wrap64 ((m / 2 : Nat) : Int) = ((m / 2 : Nat) : Int) := by unfold wrap64; omega
  generalize m / 2 = d at h1 h2 h3 ⊢
  go_enter Tryz.func95, Tryz.ntmps95
  go_wp2
  go_ret
  exact ⟨rfl, rfl⟩
set_option maxRecDepth 100000 in
theorem group_any (w : World) (t : Nat) (ht : t < 4294967296) : Calls Tryz.prog 101 #[.int .u32 (t : Int)] w fun e w' => e = .returned (.bool (decide (t % 65536 = 0))) ∧ w = w' := by
  have hA : bits .and .u32 (t : Int) 65535 = ((t % 65536 : Nat) : Int) := by
    have := u32_and_nat t 65535 ht (by decide)
    rw [show ((65535 : Nat) : Int) = 65535 from rfl] at this
    rw [this, show (65535 : Nat) = 2 ^ 16 - 1 from rfl, Nat.and_two_pow_sub_one_eq_mod]
  have hB : (((t % 65536 : Nat) : Int) == 0) = decide (t % 65536 = 0) := by
    rw [show (((t % 65536 : Nat) : Int) == 0) = decide (((t % 65536 : Nat) : Int) = 0) from rfl]
    exact decide_eq_decide.2 (by omega)
  generalize t % 65536 = d at hA hB ⊢
  have HB : Hid _ := hB
  clear hB
  go_enter Tryz.func101, Tryz.ntmps101
  go_wp2
  go_ret
  exact ⟨by rw [← HB.out]; rfl, rfl⟩
set_option maxRecDepth 100000 in
theorem stand_any (w : World) (t : Nat) : Calls Tryz.prog 99 #[.int .u32 (t : Int)] w fun e w' => e = .returned (.bool (!isBar t)) ∧ w = w' := by
  have hs : ((t / 65536 : Nat) : Int) = (t : Int) / 65536 := by omega
  obtain ⟨R, hR⟩ : ∃ R, (!isBar t) = R := ⟨_, rfl⟩
  have HR : Hid _ := hR
  rw [hR]
  unfold isBar at HR
  clear hR
  by_cases h0 : t / 65536 = 0
  · have b0 : ((t : Int) / 65536 == 0) = true := beq_iff_eq.2 (by omega)
    have HR1 : Hid (R = false) := by show _ = _; rw [← HR.out]; simp [h0]
    clear HR h0 hs
    go_enter Tryz.func99, Tryz.ntmps99
    go_wp2
    go_ret
    exact ⟨by rw [HR1.out]; rfl, rfl⟩
  have b0 : ((t : Int) / 65536 == 0) = false := beq_eq_false_iff_ne.2 (by omega)
  by_cases h2 : t / 65536 = 2
  · have b2 : ((t : Int) / 65536 == 2) = true := beq_iff_eq.2 (by omega)
    have HR1 : Hid (R = false) := by show _ = _; rw [← HR.out]; simp [h2]
    clear HR h0 h2 hs
    go_enter Tryz.func99, Tryz.ntmps99
    go_wp2
    go_ret
    exact ⟨by rw [HR1.out]; rfl, rfl⟩
  have b2 : ((t : Int) / 65536 == 2) = false := beq_eq_false_iff_ne.2 (by omega)
  by_cases h3 : t / 65536 = 65534
  · have b3 : ((t : Int) / 65536 == 65534) = true := beq_iff_eq.2 (by omega)
    have HR1 : Hid (R = false) := by show _ = _; rw [← HR.out]; simp [h3]
    clear HR h0 h2 h3 hs
    go_enter Tryz.func99, Tryz.ntmps99
    go_wp2
    go_ret
    exact ⟨by rw [HR1.out]; rfl, rfl⟩
  have b3 : ((t : Int) / 65536 == 65534) = false := beq_eq_false_iff_ne.2 (by omega)
  by_cases h4 : t / 65536 = 65535
  · have b4 : ((t : Int) / 65536 == 65535) = true := beq_iff_eq.2 (by omega)
    have HR1 : Hid (R = false) := by show _ = _; rw [← HR.out]; simp [h4]
    clear HR h0 h2 h3 h4 hs
    go_enter Tryz.func99, Tryz.ntmps99
    go_wp2
    go_ret
    exact ⟨by rw [HR1.out]; rfl, rfl⟩
  have b4 : ((t : Int) / 65536 == 65535) = false := beq_eq_false_iff_ne.2 (by omega)
  have HR1 : Hid (R = true) := by show _ = _; rw [← HR.out]; simp [h0, h2, h3, h4]
  clear HR h0 h2 h3 h4 hs
  go_enter Tryz.func99, Tryz.ntmps99
  go_wp2
  go_ret
  exact ⟨by rw [HR1.out]; rfl, rfl⟩

set_option maxRecDepth 100000 in
set_option maxHeartbeats 2000000 in
theorem leave_any (w : World) (base rb k : Nat) (bv nv sv : Value) (M : List Nd) (st : List Sp) (v : Int) (len sz x : Nat) (hP : PR base rb bv w k M st nv sv) (hk : k ≤ 1048576) (hz : sz ≤ 12) (hl : len ≤ 1048576) :
    Calls Tryz.prog 102 #[.pointer (some ⟨rb, 0, none⟩), hdV v len sz x] w fun e w' => e = .returned (.tuple #[]) ∧ Hid (PR base rb bv w' (k + sz + len) M st nv sv) ∧ Hid (Below base w w') := by
  obtain ⟨W0, hW0⟩ : ∃ W0, w.alloc (.cells #[.int .i64 v, .int .u32 (len : Int), .int .i64 (sz : Int), .iface x (.agg #[])] 159) = W0 := ⟨_, rfl⟩
  have hb0 : Below w.heap.size w W0 := by rw [← hW0]; exact (Below.refl _ _).alloc (Nat.le_refl _) _
  have HH : Hid (HC W0 w.heap.size v len sz x) := by rw [← hW0]; exact HC.new w v len sz x
  have HP : Hid (PR base rb bv W0 k M st nv sv) := hP.on hb0
  obtain ⟨y0, y1, y2, y3⟩ := HH.out
  have c1 := HP.out.c1
  have f1 := HP.out.fz 1
  have hne : rb ≠ w.heap.size := Nat.ne_of_lt (Rp.cell_lt hP.c0)
  have hne' : w.heap.size ≠ rb := fun h => hne h.symm
  have e1 : IntKind.i64.wrap (len : Int) = (len : Int) := by rw [IntKind.wrap_i64]; omega
  have e2 : IntKind.i64.wrap ((sz : Int) + (len : Int)) = ((sz + len : Nat) : Int) := by rw [IntKind.wrap_i64]; omega
  have e3 : IntKind.i64.wrap ((k : Int) + ((sz + len : Nat) : Int)) = ((k + sz + len : Nat) : Int) := by rw [IntKind.wrap_i64]; omega
  have HB : Hid (base ≤ w.heap.size) := hP.lt
  unfold hdV
  go_enter Tryz.func102, Tryz.ntmps102
  go_wp2
  go_region
  have e4 : (k : Int) + ((sz : Int) + (len : Int)) = ((k + sz + len : Nat) : Int) := by omega
  rw [e4]
  refine bodyPost_end (results_none rfl _ _ _) rfl ⟨rfl, ?_, ?_⟩
  · exact (HP.out.setAt (k + sz + len)).on ((Below.refl _ _).drew)
  · exact (((hb0.mono HB.out).setCell (p := ⟨rb, 1, none⟩) HP.out.hb _).drew)
end Go.Proofs.YtoikdpjjcnmgeaaGreatDoor
end

section
/-
  DERIVED. The same nodes; lent nodes are as they were.
-/
namespace Go.Proofs.YtoikdpjjcnmgeaaGreatDoor.Wk
open Go Go.Proofs Go.RowKit Go.Sort

set_option maxRecDepth 100000 in
set_option maxHeartbeats 1000000 in
theorem nodes_same (w : World) (a1 a2 : Option Addr) (n c1 c2 : Nat) (L : List Nd) (h1 : NV w a1 n c1 L) (h2 : NV w a2 n c2 L) : Calls Tryz.prog 13 #[.slice a1 n c1, .slice a2 n c2] w fun e w' => e = .returned (.bool true) ∧ ∃ m, w' = w.drewN m := by
  have H1 : Hid (NV w a1 n c1 L) := h1
  have H2 : Hid (NV w a2 n c2 L) := h2
  have HN : Hid (n = L.length) := h1.len
  have hsm := h1.small
  clear h1 h2
  go_enter Tryz.func13, Tryz.ntmps13
  go_wp2
  go_loopw [5] (fun s5 wx => ∃ i : Nat, s5 = .int .i64 (i : Int) ∧ i ≤ n ∧ ∃ m, wx = w.drewN m) (fun s5 _ => n - (intOf s5).toNat)
  case atStart => exact ⟨0, rfl, by omega, 0, rfl⟩
  case round =>
    obtain ⟨i, rfl, hi22, m, rfl⟩ := hrel
    by_cases hin : i < n
    · have hil : i < L.length := by rw [← HN.out]; exact hin
      obtain ⟨b1, o1, rfl, l1⟩ := H1.out.lies (by omega)
      obtain ⟨b2, o2, rfl, l2⟩ := H2.out.lies (by omega)
      obtain ⟨a0, a1, a2, a3⟩ := l1 i hil
      obtain ⟨b0, b1', b2', b3⟩ := l2 i hil
      have hI : (i : Int) < (n : Int) := by omega
      generalize L[i]'hil = q at a0 a1 a2 a3 b0 b1' b2' b3
      clear l1 l2
      go_wp2
      go_quiet (fail)
      go_wp2
      go_roundw
      case rel => exact ⟨i + 1, by go_num, by omega, _, rfl⟩
      case measure => simp [intOf]; omega
    · obtain rfl : i = n := by omega
      have hI : ¬ (i : Int) < (i : Int) := by omega
      go_wp2
      go_ret
      exact ⟨rfl, _, rfl⟩

theorem NV.drw {w : World} {a : Option Addr} {n cap : Nat} {L : List Nd} (h : NV w a n cap L) (m : Nat) : NV (w.drewN m) a n cap L := h.on (below_drw (Below.refl _ _) m)
theorem Lent.nv {g base : Nat} {L : List Nd} {w : World} (h : Lent g L base w) (hs : L.length ≤ 3518437208780) (hz : ∀ x ∈ L, -9223372036854775808 ≤ x.n ∧ x.n ≤ 9223372036854775807) : NV w (some ⟨g, 0, none⟩) L.length (L.length + 1) L := by
  refine ⟨rfl, by omega, hs, fun _ => ⟨g, 0, rfl, fun i hi => ?_⟩, hz⟩
  have hg : ∀ k, k < 4 → w.cell? ⟨g, 0 + i * 4 + k, none⟩ = ((L[i]'hi).cs)[k]? := fun k hk => by
    rw [Nat.zero_add]
    refine (World.ownsRow.cellAt h (i * 4 + k) (by omega)).trans ?_
    rw [nds_get (L ++ [mrk]) i (by simp; omega) k hk, List.getElem_append_left hi]
  exact ⟨hg 0 (by decide), hg 1 (by decide), hg 2 (by decide), hg 3 (by decide)⟩
theorem Lent.mark {g base : Nat} {L : List Nd} {w : World} (h : Lent g L base w) : w.cell? ⟨g, L.length * 4, none⟩ = some (.int .u32 2882382797) ∧ w.cell? ⟨g, L.length * 4 + 1, none⟩ = some (.int .i64 0) ∧ w.cell? ⟨g, L.length * 4 + 2, none⟩ = some (.int .i64 7) ∧ w.cell? ⟨g, L.length * 4 + 3, none⟩ = some (.string ⟨#[109, 97, 114, 107]⟩) := by
  have hg : ∀ k, k < 4 → w.cell? ⟨g, L.length * 4 + k, none⟩ = (mrk.cs)[k]? := fun k hk => by
    refine (World.ownsRow.cellAt h (L.length * 4 + k) (by omega)).trans ?_
    rw [nds_get (L ++ [mrk]) L.length (by simp) k hk, List.getElem_append_right (Nat.le_refl _)]
    simp
  exact ⟨hg 0 (by decide), hg 1 (by decide), hg 2 (by decide), hg 3 (by decide)⟩
theorem hmix : Tryz.prog.follows .mixedOrders = true := by kernel_rfl

end Go.Proofs.YtoikdpjjcnmgeaaGreatDoor.Wk
end

section
/-
  DERIVED. Lists of lists of nodes, each in memory of its own.
-/
namespace Go.Proofs.YtoikdpjjcnmgeaaGreatDoor.Wk
open Go Go.Proofs Go.RowKit

theorem app22 {w : World} {ops : Array Oper} {rest : List Oper} {o : Oper} {a : Act} {Q : Exit → Act → World → Prop} (hgd : o.guard = none) (s x : Operand)
    (ho : o.op = .call { callee := .builtin .append, args := #[s, x], argTypes := #[25, 25] }) (base : Nat) (v : Value) (n : Nat) (xs : List Value) (hs : a.eval s = v) (hown : w.ownsRow base 54 4 v n xs)
    (ad : Addr) (m c : Nat) (news : List Value) (hx : a.eval x = .slice (some ad) m c) (hl : news.length = m * 4) (hnews : ∀ j u, news[j]? = some u → w.cell? (ad.add j) = some u) (h1 : ∀ u ∈ news, u.oneCell' = true) (hm : 0 < m) (hsm : n + m ≤ 3518437208883) (hbase : base ≤ w.heap.size)
    (h : ∀ g cap w', w'.ownsRow base 54 4 (.slice (some ⟨g, 0, none⟩) (n + m) cap) (n + m) (xs ++ news) → w.grownBy w' v.ownBlock → (v.ownBlock = some g ∨ g = w.heap.size) → g < w'.heap.size → wpList Tryz.prog ops Q rest (a.put o.dst (.slice (some ⟨g, 0, none⟩) (n + m) cap)) w') : wpList Tryz.prog ops Q (o :: rest) a w := by
  obtain ⟨i0, hi, hz0, hz1, hz2⟩ := info_parts info34
  exact wpList_append_lies w hgd s x 25 ho base 54 i0 _ 4 40 Tryz.underlying25 hi hz0 hz1 hz2 rfl (by decide) v n xs hs hown ad m c news hx hl hnews h1 hm (by unfold maxLen; omega) (by omega) hbase _ rfl h
/-- A copy of nodes, perhaps of none. -/
theorem copy22 {w : World} {ops : Array Oper} {rest : List Oper} {o : Oper} {a : Act} {Q : Exit → Act → World → Prop} (hgd : o.guard = none) (s x : Operand)
    (ho : o.op = .call { callee := .builtin .append, args := #[s, x], argTypes := #[25, 25] }) (hs : a.eval s = .slice none 0 0)
    (ad : Addr) (c : Nat) (M : List Nd) (hx : a.eval x = .slice (some ad) M.length c) (hnews : ∀ j u, (nds M)[j]? = some u → w.cell? (ad.add j) = some u) (hsm : M.length ≤ 10000000)
    (h : ∀ u w', w'.ownsRow w.heap.size 54 4 u M.length (nds M) → Below w.heap.size w w' → (M = [] → u = .slice none 0 0) → (M ≠ [] → ∃ g cap, u = .slice (some ⟨g, 0, none⟩) M.length cap) → wpList Tryz.prog ops Q rest (a.put o.dst u) w') : wpList Tryz.prog ops Q (o :: rest) a w := by
  obtain ⟨i0, hi, hz0, hz1, hz2⟩ := info_parts info34
  refine wpList_append_own w hgd s x 25 ho w.heap.size 54 i0 _ 4 40 Tryz.underlying25 hi hz0 hz1 hz2 rfl (by decide) (.slice none 0 0) 0 [] hs (World.ownsRow_nil _ _ _ _) ad M.length c (nds M) hx (nds_len M) hnews (nds_one M) (by unfold maxLen; omega) (by omega) (Nat.le_refl _) ?_
  intro v' w' ho' hg' hn'
  rw [Nat.zero_add] at ho'
  refine h v' w' ho' ((Below.refl _ _).grown hg' (Nat.le_refl _) (fun k hk => by cases hk)) (fun e => hn'.2 ⟨rfl, by rw [e]; rfl⟩) (fun e => ?_)
  rcases ho'.2 with ⟨hv, -⟩ | ⟨g, cap, cur, hv, -⟩
  · exact absurd (List.length_eq_zero_iff.1 (hn'.1 hv).2) e
  · exact ⟨g, cap, hv⟩

end Go.Proofs.YtoikdpjjcnmgeaaGreatDoor.Wk
end

section
/-
  DERIVED. What stays of a reader where a list of its own grows or is written.
-/
namespace Go.Proofs.YtoikdpjjcnmgeaaGreatDoor
open Go Go.Proofs Go.RowKit
open Wk (Nd nds)
open Go.Sort

theorem below_grown {base : Nat} {W W1 : World} {e : TypeId} {z : Nat} {v : Value} {n : Nat} {xs : List Value} (ho : W.ownsRow base e z v n xs) (hg : W.grownBy W1 v.ownBlock) (hb : base ≤ W.heap.size) : Below base W W1 :=
  ⟨hg.os, hg.tape, hg.output, hg.size, fun k hk => hg.block k (by omega) (fun e => by have := (ho.lt k e.symm).1; omega)⟩
/-- What holds of each block that is no row of this type. -/
theorem grown_other {base : Nat} {W W1 : World} {e : TypeId} {z : Nat} {v : Value} {n : Nat} {xs : List Value} (ho : W.ownsRow base e z v n xs) (hg : W.grownBy W1 v.ownBlock) {g : Nat} {cur : Array Value} {t : TypeId} (hc : W.heap[g]? = some (Obj.cells cur t)) (ht : t ≠ e) : W1.heap[g]? = W.heap[g]? :=
  hg.block g (Array.getElem?_eq_some_iff.1 hc).1 (fun e' => by
    rcases ho.2 with ⟨rfl, -⟩ | ⟨g', cap, cur', rfl, -, hh, -⟩
    · cases e'
    · cases e'
      rw [hc] at hh
      cases hh
      exact ht rfl)
theorem cell_block {W W1 : World} {g i : Nat} (h : W1.heap[g]? = W.heap[g]?) : W1.cell? ⟨g, i, none⟩ = W.cell? ⟨g, i, none⟩ := by
  simp [World.cell?, h]
theorem frozen_block {W W1 : World} {g i : Nat} (h : W1.heap[g]? = W.heap[g]?) : W1.frozen? ⟨g, i, none⟩ = W.frozen? ⟨g, i, none⟩ := by
  simp [World.frozen?, h]
/-- The list of nodes grew: all else of the reader stays. -/
theorem PR.grownN {base rb : Nat} {bv nv nv' sv : Value} {W W1 : World} {k : Nat} {M M' : List Nd} {st : List Sp} (h : PR base rb bv W k M st nv sv) (hg : W.grownBy W1 nv.ownBlock) (hn : W1.ownsRow base 54 4 nv' M'.length (nds M')) (hz : M'.length ≠ 0) :
    W1.cell? ⟨rb, 2, none⟩ = some nv ∧ W1.frozen? ⟨rb, 2, none⟩ = false ∧ PR base rb bv (W1.setCell ⟨rb, 2, none⟩ nv') k M' st nv' sv := by
  obtain ⟨cs, ht⟩ := h.ty
  have hr := grown_other h.nd hg ht (by decide)
  have c0 := (cell_block (i := 0) hr).trans h.c0
  have c1 := (cell_block (i := 1) hr).trans h.c1
  have c2 := (cell_block (i := 2) hr).trans h.c2
  have c3 := (cell_block (i := 3) hr).trans h.c3
  have hs : W1.ownsRow base 112 6 sv st.length (spc st) := own_same h.sp (fun g cur hc => grown_other h.nd hg hc (by decide))
  have fz : ∀ i, W1.frozen? ⟨rb, i, none⟩ = false := fun i => (frozen_block hr).trans (h.fz i)
  have hk : ∀ e : TypeId, e ≠ 115 → ∀ (g : Nat) (cur : Array Value), W1.heap[g]? = some (Obj.cells cur e) → (W1.setCell ⟨rb, 2, none⟩ nv').heap[g]? = W1.heap[g]? := fun e he g cur hgg => heap_setCell_other W1 ⟨rb, 2, none⟩ g nv' (fun hc => by
    have hc : g = rb := hc
    rw [hc, hr, ht] at hgg
    cases hgg
    exact he rfl)
  refine ⟨c2, fz 2, ⟨(Rp.cell_set_ne (by decide)).trans c0, (Rp.cell_set_ne (by decide)).trans c1, Rp.cell_set_eq c2, (Rp.cell_set_ne (by decide)).trans c3, fun i => by simpa using fz i, ty_set ⟨cs, hr.trans ht⟩, own_same hn (hk 54 (by decide)), own_same hs (hk 112 (by decide)), h.hb, fun e => absurd e hz⟩⟩
/-- The list of spans grew: all else of the reader stays. -/
theorem PR.grownS {base rb : Nat} {bv nv sv sv' : Value} {W W1 : World} {k : Nat} {M : List Nd} {st st' : List Sp} (h : PR base rb bv W k M st nv sv) (hg : W.grownBy W1 sv.ownBlock) (hn : W1.ownsRow base 112 6 sv' st'.length (spc st')) :
    W1.cell? ⟨rb, 3, none⟩ = some sv ∧ W1.frozen? ⟨rb, 3, none⟩ = false ∧ PR base rb bv (W1.setCell ⟨rb, 3, none⟩ sv') k M st' nv sv' := by
  obtain ⟨cs, ht⟩ := h.ty
  have hr := grown_other h.sp hg ht (by decide)
  have c0 := (cell_block (i := 0) hr).trans h.c0
  have c1 := (cell_block (i := 1) hr).trans h.c1
  have c2 := (cell_block (i := 2) hr).trans h.c2
  have c3 := (cell_block (i := 3) hr).trans h.c3
  have hs : W1.ownsRow base 54 4 nv M.length (nds M) := own_same h.nd (fun g cur hc => grown_other h.sp hg hc (by decide))
  have fz : ∀ i, W1.frozen? ⟨rb, i, none⟩ = false := fun i => (frozen_block hr).trans (h.fz i)
  have hk : ∀ e : TypeId, e ≠ 115 → ∀ (g : Nat) (cur : Array Value), W1.heap[g]? = some (Obj.cells cur e) → (W1.setCell ⟨rb, 3, none⟩ sv').heap[g]? = W1.heap[g]? := fun e he g cur hgg => heap_setCell_other W1 ⟨rb, 3, none⟩ g sv' (fun hc => by
    have hc : g = rb := hc
    rw [hc, hr, ht] at hgg
    cases hgg
    exact he rfl)
  refine ⟨c3, fz 3, ⟨(Rp.cell_set_ne (by decide)).trans c0, (Rp.cell_set_ne (by decide)).trans c1, (Rp.cell_set_ne (by decide)).trans c2, Rp.cell_set_eq c3, fun i => by simpa using fz i, ty_set ⟨cs, hr.trans ht⟩, own_same hs (hk 54 (by decide)), own_same hn (hk 112 (by decide)), h.hb, h.nz⟩⟩
/-- A cell of a row of nodes was written. -/
theorem PR.keepN {base rb : Nat} {bv nv sv : Value} {W W1 : World} {k : Nat} {M M' : List Nd} {st : List Sp} (h : PR base rb bv W k M st nv sv) (hg : W.grownBy W1 nv.ownBlock) (hn : W1.ownsRow base 54 4 nv M'.length (nds M')) (hl : M'.length = M.length) : PR base rb bv W1 k M' st nv sv := by
  obtain ⟨cs, ht⟩ := h.ty
  have hr := grown_other h.nd hg ht (by decide)
  exact ⟨(cell_block hr).trans h.c0, (cell_block hr).trans h.c1, (cell_block hr).trans h.c2, (cell_block hr).trans h.c3, fun i => (frozen_block hr).trans (h.fz i), ⟨cs, hr.trans ht⟩, hn, own_same h.sp (fun g cur hc => grown_other h.nd hg hc (by decide)), h.hb, fun e => h.nz (by omega)⟩
/-- A cell of a row of spans was written. -/
theorem PR.keepS {base rb : Nat} {bv nv sv : Value} {W W1 : World} {k : Nat} {M : List Nd} {st st' : List Sp} (h : PR base rb bv W k M st nv sv) (hg : W.grownBy W1 sv.ownBlock) (hn : W1.ownsRow base 112 6 sv st'.length (spc st')) : PR base rb bv W1 k M st' nv sv := by
  obtain ⟨cs, ht⟩ := h.ty
  have hr := grown_other h.sp hg ht (by decide)
  exact ⟨(cell_block hr).trans h.c0, (cell_block hr).trans h.c1, (cell_block hr).trans h.c2, (cell_block hr).trans h.c3, fun i => (frozen_block hr).trans (h.fz i), ⟨cs, hr.trans ht⟩, own_same h.nd (fun g cur hc => grown_other h.sp hg hc (by decide)), hn, h.hb, h.nz⟩

theorem nds_setN' : ∀ (L : List Nd) (i : Nat) (h : i < L.length) (z : Int), (nds L).set (i * 4 + 2) (.int .i64 z) = nds (L.set i { (L[i]'h) with n := z })
  | [], i, h, _ => by simp at h
  | a :: L, 0, h, z => by simp [nds, Nd.cs, List.flatMap_cons]
  | a :: L, i + 1, h, z => by
    have ih := nds_setN' L i (by simpa using h) z
    simp only [nds, List.flatMap_cons, List.set_cons_succ, List.getElem_cons_succ] at ih ⊢
    rw [List.set_append_right _ _ (by simp [Nd.cs]; omega), ← ih]
    congr 2
    simp [Nd.cs]; omega
theorem bump_set {M : List Nd} {p : Nat} (h : p < M.length) : bump M (some p) 1 = M.set p { (M[p]'h) with n := (M[p]'h).n + 1 } := by
  unfold bump
  show M.modify p _ = _
  refine List.ext_getElem? fun j => ?_
  rw [List.getElem?_modify, List.getElem?_set]
  by_cases hj : p = j
  · subst hj
    simp [h]
  · rw [if_neg hj]
    cases M[j]? with
    | none => rfl
    | some a => show some (if p = j then _ else a) = some a; rw [if_neg hj]
end Go.Proofs.YtoikdpjjcnmgeaaGreatDoor
end
