import Derived.Test.YtfoodjhffehgpaaGreatDoorVh
import Derived.Test.YtfoodjhffehgpaaGreatDoorVf
import Derived.Lib.QuietBelow
import Derived.Deep.RegionLawGrows
import Derived.Deep.AppendLies
import Derived.Test.YtfoodjhffehgpaaGreatDoorGb
import Derived.Test.YtfoodjhffehgpaaGreatDoorBn
import Derived.Test.YtfoodjhffehgpaaGreatDoorBi
import Derived.Laws.BitsAllLaws
section
/-
  DERIVED. Small questions of a reader; past a head and its value.
-/
namespace Go.Proofs.YtfoodjhffehgpaaGreatDoor
open Go Go.Proofs Go.RowKit
open Wk (Nd nds)
open Go.Sort

set_option maxRecDepth 100000 in
theorem depth_any (w : World) (rb m cap : Nat) (v : Option Addr) (hm : m ≤ 4000000) (c3 : w.cell? ⟨rb, 3, none⟩ = some (.slice v m cap)) : Calls Tryz.prog 67 #[.pointer (some ⟨rb, 0, none⟩)] w fun e w' => e = .returned (.int .i64 ((m / 2 : Nat) : Int)) ∧ w = w' := by
  have h1 : Int.tdiv (m : Int) 2 = ((m / 2 : Nat) : Int) := by rw [Int.tdiv_eq_ediv_of_nonneg (by omega)]; omega
  have h2 : IntKind.i64.wrap ((m / 2 : Nat) : Int) = ((m / 2 : Nat) : Int) := by rw [IntKind.wrap_i64]; omega
  have h3 : wrap64 ((m / 2 : Nat) : Int) = ((m / 2 : Nat) : Int) := by unfold wrap64; omega
  generalize m / 2 = d at h1 h2 h3 ⊢
  go_enter Tryz.func67, Tryz.ntmps67
  go_wp2
  go_ret
  exact ⟨rfl, rfl⟩
set_option maxRecDepth 100000 in
theorem group_any (w : World) (t : Nat) (ht : t < 4294967296) : Calls Tryz.prog 73 #[.int .u32 (t : Int)] w fun e w' => e = .returned (.bool (decide (t % 65536 = 0))) ∧ w = w' := by
  have hA : bits .and .u32 (t : Int) 65535 = ((t % 65536 : Nat) : Int) := by
    have := u32_and_nat t 65535 ht (by decide)
    rw [show ((65535 : Nat) : Int) = 65535 from rfl] at this
    rw [this, show (65535 : Nat) = 2 ^ 16 - 1 from rfl, Nat.and_two_pow_sub_one_eq_mod]
  have hB : (((t % 65536 : Nat) : Int) == 0) = decide (t % 65536 = 0) := by
    rw [show (((t % 65536 : Nat) : Int) == 0) = decide (((t % 65536 : Nat) : Int) = 0) from rfl]
    exact decide_eq_decide.2 (by omega)
  generalize t % 65536 = d at hA hB ⊢
  have HB : Hid _ := hB
  clear hB
  go_enter Tryz.func73, Tryz.ntmps73
  go_wp2
  go_ret
  exact ⟨by rw [← HB.out]; rfl, rfl⟩
set_option maxRecDepth 100000 in
theorem stand_any (w : World) (t : Nat) : Calls Tryz.prog 71 #[.int .u32 (t : Int)] w fun e w' => e = .returned (.bool (!isBar t)) ∧ w = w' := by
  have hs : ((t / 65536 : Nat) : Int) = (t : Int) / 65536 := by omega
  obtain ⟨R, hR⟩ : ∃ R, (!isBar t) = R := ⟨_, rfl⟩
  have HR : Hid _ := hR
  rw [hR]
  unfold isBar at HR
  clear hR
  by_cases h0 : t / 65536 = 0
  · have b0 : ((t : Int) / 65536 == 0) = true := beq_iff_eq.2 (by omega)
    have HR1 : Hid (R = false) := by show _ = _; rw [← HR.out]; simp [h0]
    clear HR h0 hs
    go_enter Tryz.func71, Tryz.ntmps71
    go_wp2
    go_ret
    exact ⟨by rw [HR1.out]; rfl, rfl⟩
  have b0 : ((t : Int) / 65536 == 0) = false := beq_eq_false_iff_ne.2 (by omega)
  by_cases h2 : t / 65536 = 2
  · have b2 : ((t : Int) / 65536 == 2) = true := beq_iff_eq.2 (by omega)
    have HR1 : Hid (R = false) := by show _ = _; rw [← HR.out]; simp [h2]
    clear HR h0 h2 hs
    go_enter Tryz.func71, Tryz.ntmps71
    go_wp2
    go_ret
    exact ⟨by rw [HR1.out]; rfl, rfl⟩
  have b2 : ((t : Int) / 65536 == 2) = false := beq_eq_false_iff_ne.2 (by omega)
  by_cases h3 : t / 65536 = 65534
  · have b3 : ((t : Int) / 65536 == 65534) = true := beq_iff_eq.2 (by omega)
    have HR1 : Hid (R = false) := by show _ = _; rw [← HR.out]; simp [h3]
    clear HR h0 h2 h3 hs
    go_enter Tryz.func71, Tryz.ntmps71
    go_wp2
    go_ret
    exact ⟨by rw [HR1.out]; rfl, rfl⟩
  have b3 : ((t : Int) / 65536 == 65534) = false := beq_eq_false_iff_ne.2 (by omega)
  by_cases h4 : t / 65536 = 65535
  · have b4 : ((t : Int) / 65536 == 65535) = true := beq_iff_eq.2 (by omega)
    have HR1 : Hid (R = false) := by show _ = _; rw [← HR.out]; simp [h4]
    clear HR h0 h2 h3 h4 hs
    go_enter Tryz.func71, Tryz.ntmps71
    go_wp2
    go_ret
    exact ⟨by rw [HR1.out]; rfl, rfl⟩
  have b4 : ((t : Int) / 65536 == 65535) = false := beq_eq_false_iff_ne.2 (by omega)
  have HR1 : Hid (R = true) := by show _ = _; rw [← HR.out]; simp [h0, h2, h3, h4]
  clear HR h0 h2 h3 h4 hs
  go_enter Tryz.func71, Tryz.ntmps71
  go_wp2
  go_ret
  exact ⟨by rw [HR1.out]; rfl, rfl⟩

set_option maxRecDepth 100000 in
set_option maxHeartbeats 2000000 in
theorem leave_any (w : World) (base rb k : Nat) (bv nv sv : Value) (M : List Nd) (st : List Sp) (v : Int) (len sz x : Nat) (hP : PR base rb bv w k M st nv sv) (hk : k ≤ 1048576) (hz : sz ≤ 12) (hl : len ≤ 1048576) :
    Calls Tryz.prog 74 #[.pointer (some ⟨rb, 0, none⟩), hdV v len sz x] w fun e w' => e = .returned (.tuple #[]) ∧ Hid (PR base rb bv w' (k + sz + len) M st nv sv) ∧ Hid (Below base w w') := by
  obtain ⟨W0, hW0⟩ : ∃ W0, w.alloc (.cells #[.int .i64 v, .int .u32 (len : Int), .int .i64 (sz : Int), .iface x (.agg #[])] 131) = W0 := ⟨_, rfl⟩
  have hb0 : Below w.heap.size w W0 := by rw [← hW0]; exact (Below.refl _ _).alloc (Nat.le_refl _) _
  have HH : Hid (HC W0 w.heap.size v len sz x) := by rw [← hW0]; exact HC.new w v len sz x
  have HP : Hid (PR base rb bv W0 k M st nv sv) := hP.on hb0
  obtain ⟨y0, y1, y2, y3⟩ := HH.out
  have c1 := HP.out.c1
  have f1 := HP.out.fz 1
  have hne : rb ≠ w.heap.size := Nat.ne_of_lt (Rp.cell_lt hP.c0)
  have hne' : w.heap.size ≠ rb := fun h => hne h.symm
  have e1 : IntKind.i64.wrap (len : Int) = (len : Int) := by rw [IntKind.wrap_i64]; omega
  have e2 : IntKind.i64.wrap ((sz : Int) + (len : Int)) = ((sz + len : Nat) : Int) := by rw [IntKind.wrap_i64]; omega
  have e3 : IntKind.i64.wrap ((k : Int) + ((sz + len : Nat) : Int)) = ((k + sz + len : Nat) : Int) := by rw [IntKind.wrap_i64]; omega
  have HB : Hid (base ≤ w.heap.size) := hP.lt
  unfold hdV
  go_enter Tryz.func74, Tryz.ntmps74
  go_wp2
  go_region
  have e4 : (k : Int) + ((sz : Int) + (len : Int)) = ((k + sz + len : Nat) : Int) := by omega
  rw [e4]
  refine bodyPost_end (results_none rfl _ _ _) rfl ⟨rfl, ?_, ?_⟩
  · exact (HP.out.setAt (k + sz + len)).on ((Below.refl _ _).drew)
  · exact (((hb0.mono HB.out).setCell (p := ⟨rb, 1, none⟩) HP.out.hb _).drew)
end Go.Proofs.YtfoodjhffehgpaaGreatDoor
end

section
/-
  DERIVED. The same nodes; lent nodes are as they were.
-/
namespace Go.Proofs.YtfoodjhffehgpaaGreatDoor.Wk
open Go Go.Proofs Go.RowKit Go.Sort

set_option maxRecDepth 100000 in
set_option maxHeartbeats 1000000 in
theorem nodes_same (w : World) (a1 a2 : Option Addr) (n c1 c2 : Nat) (L : List Nd) (h1 : NV w a1 n c1 L) (h2 : NV w a2 n c2 L) : Calls Tryz.prog 9 #[.slice a1 n c1, .slice a2 n c2] w fun e w' => e = .returned (.bool true) ∧ ∃ m, w' = w.drewN m := by
  have H1 : Hid (NV w a1 n c1 L) := h1
  have H2 : Hid (NV w a2 n c2 L) := h2
  have HN : Hid (n = L.length) := h1.len
  have hsm := h1.small
  clear h1 h2
  go_enter Tryz.func9, Tryz.ntmps9
  go_wp2
  go_loopw [5] (fun s5 wx => ∃ i : Nat, s5 = .int .i64 (i : Int) ∧ i ≤ n ∧ ∃ m, wx = w.drewN m) (fun s5 _ => n - (intOf s5).toNat)
  case atStart => exact ⟨0, rfl, by omega, 0, rfl⟩
  case round =>
    obtain ⟨i, rfl, hi22, m, rfl⟩ := hrel
    by_cases hin : i < n
    · have hil : i < L.length := by rw [← HN.out]; exact hin
      obtain ⟨b1, o1, rfl, l1⟩ := H1.out.lies (by omega)
      obtain ⟨b2, o2, rfl, l2⟩ := H2.out.lies (by omega)
      obtain ⟨a0, a1, a2, a3⟩ := l1 i hil
      obtain ⟨b0, b1', b2', b3⟩ := l2 i hil
      have hI : (i : Int) < (n : Int) := by omega
      generalize L[i]'hil = q at a0 a1 a2 a3 b0 b1' b2' b3
      clear l1 l2
      go_wp2
      go_quiet (fail)
      go_wp2
      go_roundw
      case rel => exact ⟨i + 1, by go_num, by omega, _, rfl⟩
      case measure => simp [intOf]; omega
    · obtain rfl : i = n := by omega
      have hI : ¬ (i : Int) < (i : Int) := by omega
      go_wp2
      go_ret
      exact ⟨rfl, _, rfl⟩

theorem NV.drw {w : World} {a : Option Addr} {n cap : Nat} {L : List Nd} (h : NV w a n cap L) (m : Nat) : NV (w.drewN m) a n cap L := h.on (below_drw (Below.refl _ _) m)
theorem Lent.nv {g base : Nat} {L : List Nd} {w : World} (h : Lent g L base w) (hs : L.length ≤ 3518437208780) (hz : ∀ x ∈ L, -9223372036854775808 ≤ x.n ∧ x.n ≤ 9223372036854775807) : NV w (some ⟨g, 0, none⟩) L.length (L.length + 1) L := by
  refine ⟨rfl, by omega, hs, fun _ => ⟨g, 0, rfl, fun i hi => ?_⟩, hz⟩
  have hg : ∀ k, k < 4 → w.cell? ⟨g, 0 + i * 4 + k, none⟩ = ((L[i]'hi).cs)[k]? := fun k hk => by
    rw [Nat.zero_add]
    refine (World.ownsRow.cellAt h (i * 4 + k) (by omega)).trans ?_
    rw [nds_get (L ++ [mrk]) i (by simp; omega) k hk, List.getElem_append_left hi]
  exact ⟨hg 0 (by decide), hg 1 (by decide), hg 2 (by decide), hg 3 (by decide)⟩
theorem Lent.mark {g base : Nat} {L : List Nd} {w : World} (h : Lent g L base w) : w.cell? ⟨g, L.length * 4, none⟩ = some (.int .u32 2882382797) ∧ w.cell? ⟨g, L.length * 4 + 1, none⟩ = some (.int .i64 0) ∧ w.cell? ⟨g, L.length * 4 + 2, none⟩ = some (.int .i64 7) ∧ w.cell? ⟨g, L.length * 4 + 3, none⟩ = some (.string ⟨#[109, 97, 114, 107]⟩) := by
  have hg : ∀ k, k < 4 → w.cell? ⟨g, L.length * 4 + k, none⟩ = (mrk.cs)[k]? := fun k hk => by
    refine (World.ownsRow.cellAt h (L.length * 4 + k) (by omega)).trans ?_
    rw [nds_get (L ++ [mrk]) L.length (by simp) k hk, List.getElem_append_right (Nat.le_refl _)]
    simp
  exact ⟨hg 0 (by decide), hg 1 (by decide), hg 2 (by decide), hg 3 (by decide)⟩
theorem hmix : Tryz.prog.follows .mixedOrders = true := by kernel_rfl

end Go.Proofs.YtfoodjhffehgpaaGreatDoor.Wk
end

section
/-
  DERIVED. Lists of lists of nodes, each in memory of its own.
-/
namespace Go.Proofs.YtfoodjhffehgpaaGreatDoor.Wk
open Go Go.Proofs Go.RowKit

theorem app22 {w : World} {ops : Array Oper} {rest : List Oper} {o : Oper} {a : Act} {Q : Exit → Act → World → Prop} (hgd : o.guard = none) (s x : Operand)
    (ho : o.op = .call { callee := .builtin .append, args := #[s, x], argTypes := #[22, 22] }) (base : Nat) (v : Value) (n : Nat) (xs : List Value) (hs : a.eval s = v) (hown : w.ownsRow base 48 4 v n xs)
    (ad : Addr) (m c : Nat) (news : List Value) (hx : a.eval x = .slice (some ad) m c) (hl : news.length = m * 4) (hnews : ∀ j u, news[j]? = some u → w.cell? (ad.add j) = some u) (h1 : ∀ u ∈ news, u.oneCell' = true) (hm : 0 < m) (hsm : n + m ≤ 3518437208883) (hbase : base ≤ w.heap.size)
    (h : ∀ g cap w', w'.ownsRow base 48 4 (.slice (some ⟨g, 0, none⟩) (n + m) cap) (n + m) (xs ++ news) → w.grownBy w' v.ownBlock → (v.ownBlock = some g ∨ g = w.heap.size) → g < w'.heap.size → wpList Tryz.prog ops Q rest (a.put o.dst (.slice (some ⟨g, 0, none⟩) (n + m) cap)) w') : wpList Tryz.prog ops Q (o :: rest) a w := by
  obtain ⟨i0, hi, hz0, hz1, hz2⟩ := info_parts info34
  exact wpList_append_lies w hgd s x 22 ho base 48 i0 _ 4 40 Tryz.underlying22 hi hz0 hz1 hz2 rfl (by decide) v n xs hs hown ad m c news hx hl hnews h1 hm (by unfold maxLen; omega) (by omega) hbase _ rfl h
/-- A copy of nodes, perhaps of none. -/
theorem copy22 {w : World} {ops : Array Oper} {rest : List Oper} {o : Oper} {a : Act} {Q : Exit → Act → World → Prop} (hgd : o.guard = none) (s x : Operand)
    (ho : o.op = .call { callee := .builtin .append, args := #[s, x], argTypes := #[22, 22] }) (hs : a.eval s = .slice none 0 0)
    (ad : Addr) (c : Nat) (M : List Nd) (hx : a.eval x = .slice (some ad) M.length c) (hnews : ∀ j u, (nds M)[j]? = some u → w.cell? (ad.add j) = some u) (hsm : M.length ≤ 10000000)
    (h : ∀ u w', w'.ownsRow w.heap.size 48 4 u M.length (nds M) → Below w.heap.size w w' → (M = [] → u = .slice none 0 0) → (M ≠ [] → ∃ g cap, u = .slice (some ⟨g, 0, none⟩) M.length cap) → wpList Tryz.prog ops Q rest (a.put o.dst u) w') : wpList Tryz.prog ops Q (o :: rest) a w := by
  obtain ⟨i0, hi, hz0, hz1, hz2⟩ := info_parts info34
  refine wpList_append_own w hgd s x 22 ho w.heap.size 48 i0 _ 4 40 Tryz.underlying22 hi hz0 hz1 hz2 rfl (by decide) (.slice none 0 0) 0 [] hs (World.ownsRow_nil _ _ _ _) ad M.length c (nds M) hx (nds_len M) hnews (nds_one M) (by unfold maxLen; omega) (by omega) (Nat.le_refl _) ?_
  intro v' w' ho' hg' hn'
  rw [Nat.zero_add] at ho'
  refine h v' w' ho' ((Below.refl _ _).grown hg' (Nat.le_refl _) (fun k hk => by cases hk)) (fun e => hn'.2 ⟨rfl, by rw [e]; rfl⟩) (fun e => ?_)
  rcases ho'.2 with ⟨hv, -⟩ | ⟨g, cap, cur, hv, -⟩
  · exact absurd (List.length_eq_zero_iff.1 (hn'.1 hv).2) e
  · exact ⟨g, cap, hv⟩

end Go.Proofs.YtfoodjhffehgpaaGreatDoor.Wk
end

section
/-
  DERIVED. What stays of a reader where a list of its own grows or is written.
-/
namespace Go.Proofs.YtfoodjhffehgpaaGreatDoor
open Go Go.Proofs Go.RowKit
open Wk (Nd nds)
open Go.Sort

theorem below_grown {base : Nat} {W W1 : World} {e : TypeId} {z : Nat} {v : Value} {n : Nat} {xs : List Value} (ho : W.ownsRow base e z v n xs) (hg : W.grownBy W1 v.ownBlock) (hb : base ≤ W.heap.size) : Below base W W1 :=
  ⟨hg.os, hg.tape, hg.output, hg.size, fun k hk => hg.block k (by omega) (fun e => by have := (ho.lt k e.symm).1; omega)⟩
/-- What holds of each block that is no row of this type. -/
theorem grown_other {base : Nat} {W W1 : World} {e : TypeId} {z : Nat} {v : Value} {n : Nat} {xs : List Value} (ho : W.ownsRow base e z v n xs) (hg : W.grownBy W1 v.ownBlock) {g : Nat} {cur : Array Value} {t : TypeId} (hc : W.heap[g]? = some (Obj.cells cur t)) (ht : t ≠ e) : W1.heap[g]? = W.heap[g]? :=
  hg.block g (Array.getElem?_eq_some_iff.1 hc).1 (fun e' => by
    rcases ho.2 with ⟨rfl, -⟩ | ⟨g', cap, cur', rfl, -, hh, -⟩
    · cases e'
    · cases e'
      rw [hc] at hh
      cases hh
      exact ht rfl)
theorem cell_block {W W1 : World} {g i : Nat} (h : W1.heap[g]? = W.heap[g]?) : W1.cell? ⟨g, i, none⟩ = W.cell? ⟨g, i, none⟩ := by
  simp [World.cell?, h]
theorem frozen_block {W W1 : World} {g i : Nat} (h : W1.heap[g]? = W.heap[g]?) : W1.frozen? ⟨g, i, none⟩ = W.frozen? ⟨g, i, none⟩ := by
  simp [World.frozen?, h]
/-- The list of nodes grew: all else of the reader stays. -/
theorem PR.grownN {base rb : Nat} {bv nv nv' sv : Value} {W W1 : World} {k : Nat} {M M' : List Nd} {st : List Sp} (h : PR base rb bv W k M st nv sv) (hg : W.grownBy W1 nv.ownBlock) (hn : W1.ownsRow base 48 4 nv' M'.length (nds M')) (hz : M'.length ≠ 0) :
    W1.cell? ⟨rb, 2, none⟩ = some nv ∧ W1.frozen? ⟨rb, 2, none⟩ = false ∧ PR base rb bv (W1.setCell ⟨rb, 2, none⟩ nv') k M' st nv' sv := by
  obtain ⟨cs, ht⟩ := h.ty
  have hr := grown_other h.nd hg ht (by decide)
  have c0 := (cell_block (i := 0) hr).trans h.c0
  have c1 := (cell_block (i := 1) hr).trans h.c1
  have c2 := (cell_block (i := 2) hr).trans h.c2
  have c3 := (cell_block (i := 3) hr).trans h.c3
  have hs : W1.ownsRow base 103 6 sv st.length (spc st) := own_same h.sp (fun g cur hc => grown_other h.nd hg hc (by decide))
  have fz : ∀ i, W1.frozen? ⟨rb, i, none⟩ = false := fun i => (frozen_block hr).trans (h.fz i)
  have hk : ∀ e : TypeId, e ≠ 106 → ∀ (g : Nat) (cur : Array Value), W1.heap[g]? = some (Obj.cells cur e) → (W1.setCell ⟨rb, 2, none⟩ nv').heap[g]? = W1.heap[g]? := fun e he g cur hgg => heap_setCell_other W1 ⟨rb, 2, none⟩ g nv' (fun hc => by
    have hc : g = rb := hc
    rw [hc, hr, ht] at hgg
    cases hgg
    exact he rfl)
  refine ⟨c2, fz 2, ⟨(Rp.cell_set_ne (by decide)).trans c0, (Rp.cell_set_ne (by decide)).trans c1, Rp.cell_set_eq c2, (Rp.cell_set_ne (by decide)).trans c3, fun i => by simpa using fz i, ty_set ⟨cs, hr.trans ht⟩, own_same hn (hk 48 (by decide)), own_same hs (hk 103 (by decide)), h.hb, fun e => absurd e hz⟩⟩
/-- The list of spans grew: all else of the reader stays. -/
theorem PR.grownS {base rb : Nat} {bv nv sv sv' : Value} {W W1 : World} {k : Nat} {M : List Nd} {st st' : List Sp} (h : PR base rb bv W k M st nv sv) (hg : W.grownBy W1 sv.ownBlock) (hn : W1.ownsRow base 103 6 sv' st'.length (spc st')) :
    W1.cell? ⟨rb, 3, none⟩ = some sv ∧ W1.frozen? ⟨rb, 3, none⟩ = false ∧ PR base rb bv (W1.setCell ⟨rb, 3, none⟩ sv') k M st' nv sv' := by
  obtain ⟨cs, ht⟩ := h.ty
  have hr := grown_other h.sp hg ht (by decide)
  have c0 := (cell_block (i := 0) hr).trans h.c0
  have c1 := (cell_block (i := 1) hr).trans h.c1
  have c2 := (cell_block (i := 2) hr).trans h.c2
  have c3 := (cell_block (i := 3) hr).trans h.c3
  have hs : W1.ownsRow base 48 4 nv M.length (nds M) := own_same h.nd (fun g cur hc => grown_other h.sp hg hc (by decide))
  have fz : ∀ i, W1.frozen? ⟨rb, i, none⟩ = false := fun i => (frozen_block hr).trans (h.fz i)
  have hk : ∀ e : TypeId, e ≠ 106 → ∀ (g : Nat) (cur : Array Value), W1.heap[g]? = some (Obj.cells cur e) → (W1.setCell ⟨rb, 3, none⟩ sv').heap[g]? = W1.heap[g]? := fun e he g cur hgg => heap_setCell_other W1 ⟨rb, 3, none⟩ g sv' (fun hc => by
    have hc : g = rb := hc
    rw [hc, hr, ht] at hgg
    cases hgg
    exact he rfl)
  refine ⟨c3, fz 3, ⟨(Rp.cell_set_ne (by decide)).trans c0, (Rp.cell_set_ne (by decide)).trans c1, (Rp.cell_set_ne (by decide)).trans c2, Rp.cell_set_eq c3, fun i => by simpa using fz i, ty_set ⟨cs, hr.trans ht⟩, own_same hs (hk 48 (by decide)), own_same hn (hk 103 (by decide)), h.hb, h.nz⟩⟩
/-- A cell of a row of nodes was written. -/
theorem PR.keepN {base rb : Nat} {bv nv sv : Value} {W W1 : World} {k : Nat} {M M' : List Nd} {st : List Sp} (h : PR base rb bv W k M st nv sv) (hg : W.grownBy W1 nv.ownBlock) (hn : W1.ownsRow base 48 4 nv M'.length (nds M')) (hl : M'.length = M.length) : PR base rb bv W1 k M' st nv sv := by
  obtain ⟨cs, ht⟩ := h.ty
  have hr := grown_other h.nd hg ht (by decide)
  exact ⟨(cell_block hr).trans h.c0, (cell_block hr).trans h.c1, (cell_block hr).trans h.c2, (cell_block hr).trans h.c3, fun i => (frozen_block hr).trans (h.fz i), ⟨cs, hr.trans ht⟩, hn, own_same h.sp (fun g cur hc => grown_other h.nd hg hc (by decide)), h.hb, fun e => h.nz (by omega)⟩
/-- A cell of a row of spans was written. -/
theorem PR.keepS {base rb : Nat} {bv nv sv : Value} {W W1 : World} {k : Nat} {M : List Nd} {st st' : List Sp} (h : PR base rb bv W k M st nv sv) (hg : W.grownBy W1 sv.ownBlock) (hn : W1.ownsRow base 103 6 sv st'.length (spc st')) : PR base rb bv W1 k M st' nv sv := by
  obtain ⟨cs, ht⟩ := h.ty
  have hr := grown_other h.sp hg ht (by decide)
  exact ⟨(cell_block hr).trans h.c0, (cell_block hr).trans h.c1, (cell_block hr).trans h.c2, (cell_block hr).trans h.c3, fun i => (frozen_block hr).trans (h.fz i), ⟨cs, hr.trans ht⟩, own_same h.nd (fun g cur hc => grown_other h.sp hg hc (by decide)), hn, h.hb, h.nz⟩

theorem nds_setN' : ∀ (L : List Nd) (i : Nat) (h : i < L.length) (z : Int), (nds L).set (i * 4 + 2) (.int .i64 z) = nds (L.set i { (L[i]'h) with n := z })
  | [], i, h, _ => by simp at h
  | a :: L, 0, h, z => by simp [nds, Nd.cs, List.flatMap_cons]
  | a :: L, i + 1, h, z => by
    have ih := nds_setN' L i (by simpa using h) z
    simp only [nds, List.flatMap_cons, List.set_cons_succ, List.getElem_cons_succ] at ih ⊢
    rw [List.set_append_right _ _ (by simp [Nd.cs]; omega), ← ih]
    congr 2
    simp [Nd.cs]; omega
theorem bump_set {M : List Nd} {p : Nat} (h : p < M.length) : bump M (some p) 1 = M.set p { (M[p]'h) with n := (M[p]'h).n + 1 } := by
  unfold bump
  show M.modify p _ = _
  refine List.ext_getElem? fun j => ?_
  rw [List.getElem?_modify, List.getElem?_set]
  by_cases hj : p = j
  · subst hj
    simp [h]
  · rw [if_neg hj]
    cases M[j]? with
    | none => rfl
    | some a => show some (if p = j then _ else a) = some a; rw [if_neg hj]
end Go.Proofs.YtfoodjhffehgpaaGreatDoor
end

section
/-
  DERIVED. Choices, one after the other; what is kept while bytes are laid down.
-/
namespace Go.Proofs.YtfoodjhffehgpaaGreatDoor
open Go Go.Proofs Go.RowKit
open Wk (Nd NV goN nxt)
open Go.Sort

structure StopG (p : Prop) : Prop where
  out : p
/-- What is chosen the q-th time. -/
def chB (bits : Nat) (q : Nat) : Bool := decide (bits / 2 ^ (q % 64) % 2 = 1)
/-- The choices lie there. -/
def Cq (W : World) (cb bits q : Nat) : Prop := W.heap[cb]? = some (.cells #[.int .u64 (bits : Int), .int .u64 (q : Int)] 30 (0, 0))
theorem Cq.cells {W : World} {cb bits q : Nat} (h : Cq W cb bits q) : W.cell? ⟨cb, 0, none⟩ = some (.int .u64 (bits : Int)) ∧ W.cell? ⟨cb, 1, none⟩ = some (.int .u64 (q : Int)) ∧ ∀ i, W.frozen? ⟨cb, i, none⟩ = false := by
  unfold Cq at h
  exact ⟨Tb.cell_blk h rfl, Tb.cell_blk h rfl, fun i => Tb.frozen_blk h⟩
theorem Cq.lt {W : World} {cb bits q : Nat} (h : Cq W cb bits q) : cb < W.heap.size := (Array.getElem?_eq_some_iff.1 h).1
/-- All is kept but the choices, and bytes from a place on. -/
structure Bk (base cb : Nat) (W W' : World) : Prop where
  os : W'.os = W.os
  tape : W'.tape = W.tape
  output : W'.output = W.output
  size : W.heap.size ≤ W'.heap.size
  b : ∀ k, k < base → k ≠ cb → W'.heap[k]? = W.heap[k]?
  k : ∀ k, k < W.heap.size → k ≠ cb → NotB W k → W'.heap[k]? = W.heap[k]?
theorem Bk.refl (base cb : Nat) (W : World) : Bk base cb W W := ⟨rfl, rfl, rfl, Nat.le_refl _, fun _ _ _ => rfl, fun _ _ _ _ => rfl⟩
theorem Bk.trans {base cb : Nat} {W W1 W2 : World} (h : Bk base cb W W1) (h2 : Bk base cb W1 W2) : Bk base cb W W2 :=
  ⟨h2.os.trans h.os, h2.tape.trans h.tape, h2.output.trans h.output, Nat.le_trans h.size h2.size, fun k hk hc => (h2.b k hk hc).trans (h.b k hk hc), fun k hk hc hn => (h2.k k (Nat.lt_of_lt_of_le hk h.size) hc (fun c f => by rw [h.k k hk hc hn]; exact hn c f)).trans (h.k k hk hc hn)⟩
theorem By.bk {base cb : Nat} {W W1 : World} (h : By base W W1) : Bk base cb W W1 := ⟨h.b.os, h.b.tape, h.b.output, h.b.size, fun k hk _ => h.b.block k hk, fun k hk _ hn => h.k k hk hn⟩
theorem Bk.mono {base base' cb : Nat} {W W1 : World} (h : Bk base cb W W1) (hb : base' ≤ base) : Bk base' cb W W1 := ⟨h.os, h.tape, h.output, h.size, fun k hk hc => h.b k (Nat.lt_of_lt_of_le hk hb) hc, h.k⟩
theorem Bk.of {base cb : Nat} {W W1 : World} (h : Below W.heap.size W W1) (hb : base ≤ W.heap.size) : Bk base cb W W1 := (By.of h hb).bk
theorem Bk.below {base cb : Nat} {W W1 : World} (h : Bk base cb W W1) (hc : base ≤ cb) : Below base W W1 := ⟨h.os, h.tape, h.output, h.size, fun k hk => h.b k hk (by omega)⟩
theorem Bk.set {base cb : Nat} {W : World} (i : Nat) (v : Value) : Bk base cb W (W.setCell ⟨cb, i, none⟩ v) :=
  have h := (Below.refl 0 W).setCell (p := ⟨cb, i, none⟩) (Nat.zero_le _) v
  ⟨h.os, h.tape, h.output, h.size, fun k _ hc => Below.heap_setCell _ _ _ k (by simpa using hc), fun k _ hc _ => Below.heap_setCell _ _ _ k (by simpa using hc)⟩
/-- The choices are no bytes. -/
theorem Cq.by {base : Nat} {W W' : World} {cb bits q : Nat} (h : Cq W cb bits q) (hb : By base W W') : Cq W' cb bits q := (hb.cell h (by decide)).trans h
theorem Cq.on {W W' : World} {cb bits q : Nat} (h : Cq W cb bits q) (hb : Below W.heap.size W W') : Cq W' cb bits q := (hb.block cb h.lt).trans h
/-- Bytes of our own are kept by who makes bytes of his own. -/
theorem Ob.bk {base cb : Nat} {W W' : World} {u : Value} {ys : List UInt8} (h : Ob base W u ys) (hb : Bk W.heap.size cb W W') {bits q : Nat} (hc : Cq W cb bits q) : Ob base W' u ys := by
  have h0 : W.ownsRow base 5 1 u ys.length (bvs ys) := h
  exact Wk.own_keep h0 (fun g hg => hb.b g (h0.lt g hg).2 (fun e => by
    rcases h0.2 with ⟨rfl, -⟩ | ⟨g', cap, cur, rfl, -, hh, -⟩
    · cases hg
    · cases hg
      subst e
      unfold Cq at hc
      rw [hc] at hh
      cases hh))
theorem NB.bk {base cb : Nat} {W W' : World} {k : Nat} {t v z : Int} {s : ByteArray} (h : NB W k t v z s) (hb : Bk base cb W W') (hk : k ≠ cb) : NB W' k t v z s :=
  (hb.k k (Array.getElem?_eq_some_iff.1 h).1 hk (fun c f e => by rw [h] at e; cases e)).trans h
theorem NV.blk {w w' : World} {b off n cap : Nat} {L : List Nd} (h : NV w (some ⟨b, off, none⟩) n cap L) (hb : w'.heap[b]? = w.heap[b]?) : NV w' (some ⟨b, off, none⟩) n cap L :=
  ⟨h.len, h.room, h.small, fun hn => by
    obtain ⟨b', off', e, hl⟩ := h.lies hn
    cases e
    refine ⟨b, off, rfl, fun i hi => ?_⟩
    obtain ⟨q0, q1, q2, q3⟩ := hl i hi
    exact ⟨(cell_block hb).trans q0, (cell_block hb).trans q1, (cell_block hb).trans q2, (cell_block hb).trans q3⟩, h.num⟩

theorem chB_eq {bits q : Nat} (hb : bits < 18446744073709551616) : (Go.bits BinOp.and IntKind.u64 ((bits : Int) / 2 ^ (q % 64)) 1 == 1) = chB bits q := by
  have e : (bits : Int) / 2 ^ (q % 64) = ((bits / 2 ^ (q % 64) : Nat) : Int) := by
    rw [Int.natCast_ediv, Int.natCast_pow]
    rfl
  have hl : bits / 2 ^ (q % 64) < 18446744073709551616 := Nat.lt_of_le_of_lt (Nat.div_le_self _ _) hb
  have := u64_and_nat (bits / 2 ^ (q % 64)) 1 hl (by decide)
  rw [e, show (1 : Int) = ((1 : Nat) : Int) from rfl, this, Nat.and_one_is_mod]
  unfold chB
  rcases Nat.mod_two_eq_zero_or_one (bits / 2 ^ (q % 64)) with h | h <;> rw [h] <;> rfl
set_option maxRecDepth 100000 in
set_option maxHeartbeats 1000000 in
theorem next_any (w : World) (cb bits q : Nat) (hc : Cq w cb bits q) (hb : bits < 18446744073709551616) (hq : q < 1000000) : Calls Tryz.prog 14 #[.pointer (some ⟨cb, 0, none⟩)] w fun e w' => e = .returned (.bool (chB bits q)) ∧ Hid (Cq w' cb bits (q + 1)) ∧ Hid (∀ base, Bk base cb w w') := by
  obtain ⟨c0, c1, cf⟩ := hc.cells
  have HC : Hid (Cq w cb bits q) := hc
  have HB : Hid (bits < 18446744073709551616) := hb
  clear hc hb
  go_enter Tryz.func14, Tryz.ntmps14
  go_wp2
  go_quiet (fail)
  obtain ⟨W1, hW1⟩ : ∃ W1, w.drewN nq = W1 := ⟨_, rfl⟩
  have hb1 : Below w.heap.size w W1 := by rw [← hW1]; exact Wk.below_drw (Below.refl _ _) nq
  have HC1 : Hid (Cq W1 cb bits q) := HC.out.on hb1
  have HB1 : Hid (∀ base, Below base w W1) := fun base => by rw [← hW1]; exact Wk.below_drw (Below.refl _ _) nq
  obtain ⟨d0, d1, df⟩ := HC1.out.cells
  rw [hW1, chB_eq HB.out]
  clear hW1 hb1 c0 c1 cf
  go_wp2
  go_ret
  refine ⟨rfl, ?_, fun base => ?_⟩
  · have h := heap_setCell_same W1 cb 1 _ 30 (.int .u64 ((q : Int) + 1)) HC1.out
    exact h
  · have h0 := HB1.out w.heap.size
    have h1 := HB1.out base
    exact Bk.trans ⟨h0.os, h0.tape, h0.output, h0.size, fun k hk _ => h1.block k hk, fun k hk _ _ => h0.block k hk⟩ (Bk.set 1 _)
end Go.Proofs.YtfoodjhffehgpaaGreatDoor
end
