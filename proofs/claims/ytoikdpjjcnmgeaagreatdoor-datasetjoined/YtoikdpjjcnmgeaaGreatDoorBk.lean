import Derived.Test.YtoikdpjjcnmgeaaGreatDoorId
import Derived.Test.YtoikdpjjcnmgeaaGreatDoorLa
import Derived.WideMake
import Derived.Room.AppendFits
import Derived.Lib.QuietBelow
import Derived.Test.YtoikdpjjcnmgeaaGreatDoorBa
import Derived.Test.YtoikdpjjcnmgeaaGreatDoorBj
section
/-
  DERIVED. The document's fault, with a link ahead.
-/
namespace Go.Proofs.YtoikdpjjcnmgeaaGreatDoor
open Go Go.Proofs Go.RowKit
open Wk (Nd NV)

set_option maxRecDepth 100000 in
theorem any_none (w : World) : Calls Tryz.prog 26 #[.agg #[.slice none 0 0, .int .i64 0]] w fun e w' => e = .returned (.bool false) ∧ Below w.heap.size w w' := by
  go_enter Tryz.func26, Tryz.ntmps26
  go_wp2
  go_ret
  exact ⟨rfl, (Below.refl _ _).alloc (Nat.le_refl _) _⟩
set_option maxRecDepth 100000 in
theorem any_some (w : World) (g c : Nat) : Calls Tryz.prog 26 #[.agg #[.slice (some ⟨g, 0, none⟩) 1 c, .int .i64 5]] w fun e w' => e = .returned (.bool true) ∧ Below w.heap.size w w' := by
  go_enter Tryz.func26, Tryz.ntmps26
  go_wp2
  go_ret
  exact ⟨rfl, (Below.refl _ _).alloc (Nat.le_refl _) _⟩

set_option maxRecDepth 100000 in
set_option maxHeartbeats 2000000 in
theorem wrap_any (w : World) (a z : Int) (s : ByteArray) (g cg : Nat) (h0 : w.cell? ⟨g, 0, none⟩ = some (.string s)) (h1 : w.cell? ⟨g, 1, none⟩ = some (.int .i64 z)) :
    Calls Tryz.prog 54 #[.string { data := #[100, 97, 116, 97, 115, 101, 116] }, .int .i64 a, .agg #[.slice (some ⟨g, 0, none⟩) 1 cg, .int .i64 5]] w fun e w' => ∃ g2 c2, e = .returned (.agg #[.slice (some ⟨g2, 0, none⟩) 2 c2, .int .i64 5]) ∧ Hid (LkAt w' g2 [(dsB, a), (s, z)]) ∧ Hid (Below w.heap.size w w') := by
  obtain ⟨i0, hi, hz0, hz1, hz2⟩ := info_parts infoLk
  have hgl : g < w.heap.size := Rp.cell_lt h0
  obtain ⟨W1, hW1⟩ : ∃ W1, ((w.alloc (.cells #[.slice (some ⟨g, 0, none⟩) 1 cg, .int .i64 5] 32)).alloc (.cells #[.slice none 0 0, .int .i64 0] 32)).alloc (.cells #[.string { data := #[100, 97, 116, 97, 115, 101, 116] }, .int .i64 a] 102) = W1 := ⟨_, rfl⟩
  have hb1 : Below w.heap.size w W1 := by rw [← hW1]; exact (((Below.refl _ _).alloc (Nat.le_refl _) _).alloc (by simp) _).alloc (by simp; omega) _
  have bA : Below (w.heap.size + 1) (w.alloc (.cells #[.slice (some ⟨g, 0, none⟩) 1 cg, .int .i64 5] 32)) W1 := by rw [← hW1]; exact ((Below.refl _ _).alloc (by simp) _).alloc (by simp) _
  have bB : Below (w.heap.size + 1 + 1) ((w.alloc (.cells #[.slice (some ⟨g, 0, none⟩) 1 cg, .int .i64 5] 32)).alloc (.cells #[.slice none 0 0, .int .i64 0] 32)) W1 := by rw [← hW1]; exact (Below.refl _ _).alloc (by simp) _
  have hA : W1.heap[w.heap.size]? = some (.cells #[.slice (some ⟨g, 0, none⟩) 1 cg, .int .i64 5] 32 (0, 0)) := (bA.block _ (Nat.lt_succ_self _)).trans (Wk.heap_new w _)
  have hB : W1.heap[w.heap.size + 1]? = some (.cells #[.slice none 0 0, .int .i64 0] 32 (0, 0)) := (bB.block _ (Nat.lt_succ_self _)).trans (Tb.alloc2 _ _ _)
  have hC : W1.heap[w.heap.size + 1 + 1]? = some (.cells #[.string { data := #[100, 97, 116, 97, 115, 101, 116] }, .int .i64 a] 102 (0, 0)) := by rw [← hW1]; exact Tb.alloc3 _ _ _ _
  have a0 : W1.cell? ⟨w.heap.size, 0, none⟩ = some (.slice (some ⟨g, 0, none⟩) 1 cg) := Tb.cell_blk hA rfl
  have a1 : W1.cell? ⟨w.heap.size, 1, none⟩ = some (.int .i64 5) := Tb.cell_blk hA rfl
  have b0 : W1.cell? ⟨w.heap.size + 1, 0, none⟩ = some (.slice none 0 0) := Tb.cell_blk hB rfl
  have b1 : W1.cell? ⟨w.heap.size + 1, 1, none⟩ = some (.int .i64 0) := Tb.cell_blk hB rfl
  have bf : ∀ i, W1.frozen? ⟨w.heap.size + 1, i, none⟩ = false := fun i => Tb.frozen_blk hB
  have HOW : Hid (W1.ownsRow (w.heap.size + 1 + 1) 102 2 (.slice (some ⟨w.heap.size + 1 + 1, 0, none⟩) 1 1) 1 (lkc [(dsB, a)])) := ⟨rfl, .inr ⟨_, 1, _, rfl, Nat.le_refl _, hC, Nat.le_refl _, by unfold maxLen; decide, rfl, rfl⟩⟩
  have g0 := (hb1.cell (p := ⟨g, 0, none⟩) hgl).trans h0
  have g1 := (hb1.cell (p := ⟨g, 1, none⟩) hgl).trans h1
  have hs1 : W1.heap.size = w.heap.size + 1 + 1 + 1 := by rw [← hW1]; simp
  have HS1 : Hid _ := hs1
  have HB1 : Hid _ := hb1
  clear hA hB hC bA bB h0 h1 hb1 hs1
  go_enter Tryz.func54, Tryz.ntmps54
  go_wp2
  refine wp_loop_rounds 2 ?_
  rw [rounds_succ]
  go_wp2_with (at_builtin; refine StopF.out ?_)
  refine ⟨wpList_append_lies _ rfl (.tmp 20) (.tmp 26) 30 rfl (w.heap.size + 1 + 1) 102 i0 _ 2 24 Tryz.underlying30 hi hz0 hz1 hz2 rfl (by decide) (.slice (some ⟨w.heap.size + 1 + 1, 0, none⟩) 1 1) 1 (lkc [(dsB, a)]) rfl (World.ownsRow.alloc HOW.out _) ⟨W1.heap.size, 0, none⟩ 1 1 [.string s, .int .i64 z] rfl rfl (Wk.news_new rfl _ _) (by intro u hu; simp at hu; rcases hu with rfl | rfl <;> rfl) (by decide) (by unfold maxLen; decide) (by decide) (by have := HS1.out; simp; omega) _ rfl ?_⟩
  intro g4 c4 W4 ho4 hg4 _ _
  have hk : ∀ k, k < w.heap.size + 1 + 1 → W4.heap[k]? = W1.heap[k]? := fun k hk => (hg4.block k (by have := HS1.out; simp; omega) (fun e => Nat.ne_of_lt hk (Option.some.inj e))).trans (Below.heap_alloc W1 _ k (by have := HS1.out; omega))
  have k1 : W4.cell? ⟨w.heap.size, 1, none⟩ = some (.int .i64 5) := (World.cell?_of_block (a := ⟨w.heap.size, 1, none⟩) (hk w.heap.size (by omega))).trans a1
  have k0 : W4.cell? ⟨w.heap.size, 0, none⟩ = some (.slice (some ⟨g, 0, none⟩) 1 cg) := (World.cell?_of_block (a := ⟨w.heap.size, 0, none⟩) (hk w.heap.size (by omega))).trans a0
  have m0 : W4.cell? ⟨w.heap.size + 1, 0, none⟩ = some (.slice none 0 0) := (World.cell?_of_block (a := ⟨w.heap.size + 1, 0, none⟩) (hk (w.heap.size + 1) (by omega))).trans b0
  have m1 : W4.cell? ⟨w.heap.size + 1, 1, none⟩ = some (.int .i64 0) := (World.cell?_of_block (a := ⟨w.heap.size + 1, 1, none⟩) (hk (w.heap.size + 1) (by omega))).trans b1
  have mf : ∀ i, W4.frozen? ⟨w.heap.size + 1, i, none⟩ = false := fun i => (World.frozen?_of_block (a := ⟨w.heap.size + 1, i, none⟩) (hk (w.heap.size + 1) (by omega))).trans (bf i)
  have hg4b := (ho4.lt g4 rfl).1
  have HLK : Hid (LkAt W4 g4 [(dsB, a), (s, z)]) := lk_own (ls := [(dsB, a), (s, z)]) ho4 rfl
  have HB4 : Hid (Below w.heap.size w W4) := ⟨hg4.os.trans HB1.out.os, hg4.tape.trans HB1.out.tape, hg4.output.trans HB1.out.output, by have := hg4.size; have := HB1.out.size; simp at *; omega, fun k hk' => (hk k (by omega)).trans (HB1.out.block k hk')⟩
  clear ho4 hg4 hk a0 a1 b0 b1 bf hW1 HOW g0 g1
  go_wp2
  rw [rounds_succ]
  go_wp2
  have e0 : ((W4.setCell ⟨w.heap.size + 1, 0, none⟩ (.slice (some ⟨g4, 0, none⟩) 2 c4)).setCell ⟨w.heap.size + 1, 1, none⟩ (.int .i64 5)).cell? ⟨w.heap.size + 1, 0, none⟩ = some (.slice (some ⟨g4, 0, none⟩) 2 c4) := (Rp.cell_set_ne (by decide)).trans (Rp.cell_set_eq m0)
  have e1 : ((W4.setCell ⟨w.heap.size + 1, 0, none⟩ (.slice (some ⟨g4, 0, none⟩) 2 c4)).setCell ⟨w.heap.size + 1, 1, none⟩ (.int .i64 5)).cell? ⟨w.heap.size + 1, 1, none⟩ = some (.int .i64 5) := Rp.cell_set_eq ((Rp.cell_set_ne (by decide)).trans m1)
  refine bodyPost_ret (v := .agg #[.slice (some ⟨g4, 0, none⟩) 2 c4, .int .i64 5]) (by simp only [results, Tryz.results54]; simp [go_sem, e0, e1]) rfl ⟨g4, c4, rfl, ?_, (HB4.out.setCell (p := ⟨w.heap.size + 1, 0, none⟩) (by simp) _).setCell (p := ⟨w.heap.size + 1, 1, none⟩) (by simp) _⟩
  intro i hi
  have h := HLK.out i hi
  exact ⟨(Rp.cell_set_off (by omega)).trans ((Rp.cell_set_off (by omega)).trans h.1), (Rp.cell_set_off (by omega)).trans ((Rp.cell_set_off (by omega)).trans h.2)⟩
end Go.Proofs.YtoikdpjjcnmgeaaGreatDoor
end

section
/-
  DERIVED. Nodes that are lent, with a mark behind them.
-/
namespace Go.Proofs.YtoikdpjjcnmgeaaGreatDoor.Wk
open Go Go.Proofs Go.RowKit

theorem info34 : (Tryz.prog.info? 54).map (fun i => (i.zero, i.size, i.bytes)) = some (some (.agg #[.int .u32 0, .int .i64 0, .int .i64 0, .string ⟨#[]⟩]), 4, 40) := by kernel_rfl
theorem info22 : (Tryz.prog.info? 25).map (fun i => (i.zero, i.size, i.bytes)) = some (some (.slice none 0 0), 1, 24) := by kernel_rfl
def mrk : Nd := ⟨2882382797, 0, 7, ⟨#[109, 97, 114, 107]⟩⟩

theorem take_nds {L : List Nd} {k : Nat} (h : k < L.length) : nds (L.take (k + 1)) = nds (L.take k) ++ (L[k]'h).cs := by
  rw [List.take_add_one, List.getElem?_eq_getElem h, nds_append]
  congr 1
theorem cs_one (a : Nd) : ∀ u ∈ a.cs, u.oneCell' = true := by
  intro u hu
  simp [Nd.cs] at hu
  rcases hu with rfl | rfl | rfl | rfl <;> rfl

/-- What was lent: the nodes in block g, a mark behind them. -/
def Lent (g : Nat) (L : List Nd) (base : Nat) (w : World) : Prop := w.ownsRow base 54 4 (.slice (some ⟨g, 0, none⟩) (L.length + 1) (L.length + 1)) (L.length + 1) (nds (L ++ [mrk]))

end Go.Proofs.YtoikdpjjcnmgeaaGreatDoor.Wk
end

section
/-
  DERIVED. The same nodes; lent nodes are as they were.
-/
namespace Go.Proofs.YtoikdpjjcnmgeaaGreatDoor.Wk
open Go Go.Proofs Go.RowKit Go.Sort

set_option maxRecDepth 100000 in
set_option maxHeartbeats 1000000 in
theorem nodes_same (w : World) (a1 a2 : Option Addr) (n c1 c2 : Nat) (L : List Nd) (h1 : NV w a1 n c1 L) (h2 : NV w a2 n c2 L) : Calls Tryz.prog 13 #[.slice a1 n c1, .slice a2 n c2] w fun e w' => e = .returned (.bool true) ∧ ∃ m, w' = w.drewN m := by
  have H1 : Hid (NV w a1 n c1 L) := h1
  have H2 : Hid (NV w a2 n c2 L) := h2
  have HN : Hid (n = L.length) := h1.len
  have hsm := h1.small
  clear h1 h2
  go_enter Tryz.func13, Tryz.ntmps13
  go_wp2
  go_loopw [5] (fun s5 wx => ∃ i : Nat, s5 = .int .i64 (i : Int) ∧ i ≤ n ∧ ∃ m, wx = w.drewN m) (fun s5 _ => n - (intOf s5).toNat)
  case atStart => exact ⟨0, rfl, by omega, 0, rfl⟩
  case round =>
    obtain ⟨i, rfl, hi22, m, rfl⟩ := hrel
    by_cases hin : i < n
    · have hil : i < L.length := by rw [← HN.out]; exact hin
      obtain ⟨b1, o1, rfl, l1⟩ := H1.out.lies (by omega)
      obtain ⟨b2, o2, rfl, l2⟩ := H2.out.lies (by omega)
      obtain ⟨a0, a1, a2, a3⟩ := l1 i hil
      obtain ⟨b0, b1', b2', b3⟩ := l2 i hil
      have hI : (i : Int) < (n : Int) := by omega
      generalize L[i]'hil = q at a0 a1 a2 a3 b0 b1' b2' b3
      clear l1 l2
      go_wp2
      go_quiet (fail)
      go_wp2
      go_roundw
      case rel => exact ⟨i + 1, by go_num, by omega, _, rfl⟩
      case measure => simp [intOf]; omega
    · obtain rfl : i = n := by omega
      have hI : ¬ (i : Int) < (i : Int) := by omega
      go_wp2
      go_ret
      exact ⟨rfl, _, rfl⟩

theorem NV.drw {w : World} {a : Option Addr} {n cap : Nat} {L : List Nd} (h : NV w a n cap L) (m : Nat) : NV (w.drewN m) a n cap L := h.on (below_drw (Below.refl _ _) m)
theorem Lent.nv {g base : Nat} {L : List Nd} {w : World} (h : Lent g L base w) (hs : L.length ≤ 3518437208780) (hz : ∀ x ∈ L, -9223372036854775808 ≤ x.n ∧ x.n ≤ 9223372036854775807) : NV w (some ⟨g, 0, none⟩) L.length (L.length + 1) L := by
  refine ⟨rfl, by omega, hs, fun _ => ⟨g, 0, rfl, fun i hi => ?_⟩, hz⟩
  have hg : ∀ k, k < 4 → w.cell? ⟨g, 0 + i * 4 + k, none⟩ = ((L[i]'hi).cs)[k]? := fun k hk => by
    rw [Nat.zero_add]
    refine (World.ownsRow.cellAt h (i * 4 + k) (by omega)).trans ?_
    rw [nds_get (L ++ [mrk]) i (by simp; omega) k hk, List.getElem_append_left hi]
  exact ⟨hg 0 (by decide), hg 1 (by decide), hg 2 (by decide), hg 3 (by decide)⟩
theorem Lent.mark {g base : Nat} {L : List Nd} {w : World} (h : Lent g L base w) : w.cell? ⟨g, L.length * 4, none⟩ = some (.int .u32 2882382797) ∧ w.cell? ⟨g, L.length * 4 + 1, none⟩ = some (.int .i64 0) ∧ w.cell? ⟨g, L.length * 4 + 2, none⟩ = some (.int .i64 7) ∧ w.cell? ⟨g, L.length * 4 + 3, none⟩ = some (.string ⟨#[109, 97, 114, 107]⟩) := by
  have hg : ∀ k, k < 4 → w.cell? ⟨g, L.length * 4 + k, none⟩ = (mrk.cs)[k]? := fun k hk => by
    refine (World.ownsRow.cellAt h (L.length * 4 + k) (by omega)).trans ?_
    rw [nds_get (L ++ [mrk]) L.length (by simp) k hk, List.getElem_append_right (Nat.le_refl _)]
    simp
  exact ⟨hg 0 (by decide), hg 1 (by decide), hg 2 (by decide), hg 3 (by decide)⟩
theorem hmix : Tryz.prog.follows .mixedOrders = true := by kernel_rfl

end Go.Proofs.YtoikdpjjcnmgeaaGreatDoor.Wk
end

section
/-
  DERIVED. Lists of lists of nodes, each in memory of its own.
-/
namespace Go.Proofs.YtoikdpjjcnmgeaaGreatDoor.Wk
open Go Go.Proofs Go.RowKit

theorem app22 {w : World} {ops : Array Oper} {rest : List Oper} {o : Oper} {a : Act} {Q : Exit → Act → World → Prop} (hgd : o.guard = none) (s x : Operand)
    (ho : o.op = .call { callee := .builtin .append, args := #[s, x], argTypes := #[25, 25] }) (base : Nat) (v : Value) (n : Nat) (xs : List Value) (hs : a.eval s = v) (hown : w.ownsRow base 54 4 v n xs)
    (ad : Addr) (m c : Nat) (news : List Value) (hx : a.eval x = .slice (some ad) m c) (hl : news.length = m * 4) (hnews : ∀ j u, news[j]? = some u → w.cell? (ad.add j) = some u) (h1 : ∀ u ∈ news, u.oneCell' = true) (hm : 0 < m) (hsm : n + m ≤ 3518437208883) (hbase : base ≤ w.heap.size)
    (h : ∀ g cap w', w'.ownsRow base 54 4 (.slice (some ⟨g, 0, none⟩) (n + m) cap) (n + m) (xs ++ news) → w.grownBy w' v.ownBlock → (v.ownBlock = some g ∨ g = w.heap.size) → g < w'.heap.size → wpList Tryz.prog ops Q rest (a.put o.dst (.slice (some ⟨g, 0, none⟩) (n + m) cap)) w') : wpList Tryz.prog ops Q (o :: rest) a w := by
  obtain ⟨i0, hi, hz0, hz1, hz2⟩ := info_parts info34
  exact wpList_append_lies w hgd s x 25 ho base 54 i0 _ 4 40 Tryz.underlying25 hi hz0 hz1 hz2 rfl (by decide) v n xs hs hown ad m c news hx hl hnews h1 hm (by unfold maxLen; omega) (by omega) hbase _ rfl h
/-- A copy of nodes, perhaps of none. -/
theorem copy22 {w : World} {ops : Array Oper} {rest : List Oper} {o : Oper} {a : Act} {Q : Exit → Act → World → Prop} (hgd : o.guard = none) (s x : Operand)
    (ho : o.op = .call { callee := .builtin .append, args := #[s, x], argTypes := #[25, 25] }) (hs : a.eval s = .slice none 0 0)
    (ad : Addr) (c : Nat) (M : List Nd) (hx : a.eval x = .slice (some ad) M.length c) (hnews : ∀ j u, (nds M)[j]? = some u → w.cell? (ad.add j) = some u) (hsm : M.length ≤ 10000000)
    (h : ∀ u w', w'.ownsRow w.heap.size 54 4 u M.length (nds M) → Below w.heap.size w w' → (M = [] → u = .slice none 0 0) → (M ≠ [] → ∃ g cap, u = .slice (some ⟨g, 0, none⟩) M.length cap) → wpList Tryz.prog ops Q rest (a.put o.dst u) w') : wpList Tryz.prog ops Q (o :: rest) a w := by
  obtain ⟨i0, hi, hz0, hz1, hz2⟩ := info_parts info34
  refine wpList_append_own w hgd s x 25 ho w.heap.size 54 i0 _ 4 40 Tryz.underlying25 hi hz0 hz1 hz2 rfl (by decide) (.slice none 0 0) 0 [] hs (World.ownsRow_nil _ _ _ _) ad M.length c (nds M) hx (nds_len M) hnews (nds_one M) (by unfold maxLen; omega) (by omega) (Nat.le_refl _) ?_
  intro v' w' ho' hg' hn'
  rw [Nat.zero_add] at ho'
  refine h v' w' ho' ((Below.refl _ _).grown hg' (Nat.le_refl _) (fun k hk => by cases hk)) (fun e => hn'.2 ⟨rfl, by rw [e]; rfl⟩) (fun e => ?_)
  rcases ho'.2 with ⟨hv, -⟩ | ⟨g, cap, cur, hv, -⟩
  · exact absurd (List.length_eq_zero_iff.1 (hn'.1 hv).2) e
  · exact ⟨g, cap, hv⟩

end Go.Proofs.YtoikdpjjcnmgeaaGreatDoor.Wk
end

section
/-
  DERIVED. What is implied, said in one line.
-/
namespace Go.Proofs.YtoikdpjjcnmgeaaGreatDoor
open Go Go.Proofs Go.RowKit
open Wk (Nd NV)

theorem run_ok : ∀ (L : List Nd) (i : Nat) (st : List Lv), i ≤ 4096 → (runL elemOk itemOk i st L).2 = true → L.length + i ≤ 4096 ∧ ∀ x ∈ L, x.v = 29 ∨ x.v = 18 ∨ x.s.size ≤ 65534
  | [], i, st, hi, _ => ⟨by simpa using hi, fun x hx => by simp at hx⟩
  | a :: L, i, st, hi, h => by
    rw [runL] at h
    split at h
    · cases h
    · rename_i hn
      have hi40 : i ≠ 4096 := fun e => hn (.inl e)
      have hr : rightL elemOk itemOk a st = true := by
        rcases hb : rightL elemOk itemOk a st with _ | _
        · exact absurd (.inr hb) hn
        · rfl
      obtain ⟨h1, h2⟩ := run_ok L (i + 1) _ (by omega) h
      refine ⟨by simp; omega, fun x hx => ?_⟩
      rcases List.mem_cons.1 hx with rfl | hx
      · unfold rightL at hr
        split at hr
        · simp only [Bool.and_eq_true, itemOk, decide_eq_true_eq] at hr
          exact .inl hr.1.2.1
        · simp only [Bool.and_eq_true, elemOk] at hr
          have h3 := hr.1.2.2
          unfold bodyO at h3
          split at h3
          · rename_i hv; exact .inr (.inl hv)
          · simp only [Bool.and_eq_true, decide_eq_true_eq] at h3
            exact .inr (.inr h3.2.2.1)
      · exact h2 x hx
theorem res_ok {L : List Nd} (h : (res L).2 = true) : L.length ≤ 4096 ∧ ∀ x ∈ L, x.v = 29 ∨ x.v = 18 ∨ x.s.size ≤ 65534 := by
  have := run_ok L 0 [(0, 0)] (by omega) h
  exact ⟨by omega, this.2⟩

theorem own_at {w : World} {base g n cap : Nat} {L : List Nd} (h : w.ownsRow base 54 4 (.slice (some ⟨g, 0, none⟩) n cap) n (Wk.nds L)) (hn : n = L.length) {i : Nat} (hi : i < L.length) : w.cell? ⟨g, i * 4, none⟩ = some (.int .u32 (L[i]'hi).t) ∧ w.cell? ⟨g, i * 4 + 1, none⟩ = some (.int .i64 (L[i]'hi).v) ∧ w.cell? ⟨g, i * 4 + 2, none⟩ = some (.int .i64 (L[i]'hi).n) ∧ w.cell? ⟨g, i * 4 + 3, none⟩ = some (.string (L[i]'hi).s) := by
  have hg : ∀ k, k < 4 → w.cell? ⟨g, i * 4 + k, none⟩ = ((L[i]'hi).cs)[k]? := fun k hk => (World.ownsRow.cellAt h (i * 4 + k) (by omega)).trans (Wk.nds_get L i hi k hk)
  exact ⟨hg 0 (by decide), hg 1 (by decide), hg 2 (by decide), hg 3 (by decide)⟩
end Go.Proofs.YtoikdpjjcnmgeaaGreatDoor
end

section
/-
  DERIVED. Faults with one link; the size of a data set: the program's.
-/
namespace Go.Proofs.YtoikdpjjcnmgeaaGreatDoor
open Go Go.Proofs Go.RowKit
open Wk (Nd NV goN nxt)

/-- The syntax by its number. -/
def encS (s : Int) : Enc := encOf (decide (s = 2))
/-- What is refused. -/
def errOf (s : Int) (L : List Nd) : Option (List Lk × Int) :=
  if s ≠ 1 ∧ s ≠ 2 then some ([(dsB, 0)], 120)
  else if (res L).2 = false then some ([(dsB, ((res L).1 : Int)), (dcB, ((res L).1 : Int))], 5)
  else if 1048576 < (encS s).szP L then some ([(dsB, 1048576)], 121) else none
def siz (s : Int) (L : List Nd) : Nat := if (errOf s L).isSome = true then 0 else (encS s).szP L
def outB (s : Int) (L : List Nd) : List UInt8 := if (errOf s L).isSome = true then [] else (encS s).wP L
/-- The program's error. -/
def PErr (w : World) (v : Value) (o : Option (List Lk × Int)) : Prop := (o = none ∧ v = .nilIface) ∨ ∃ ls c, o = some (ls, c) ∧ Chain w ls c v
theorem PErr.on {w w' : World} {v : Value} {o : Option (List Lk × Int)} (h : PErr w v o) (hb : Below w.heap.size w w') : PErr w' v o := by
  rcases h with h | ⟨ls, c, h1, h2⟩
  · exact .inl h
  · exact .inr ⟨ls, c, h1, h2.on hb⟩
theorem err_bad {s : Int} {L : List Nd} (h : s ≠ 1 ∧ s ≠ 2) : errOf s L = some ([(dsB, 0)], 120) := by unfold errOf; rw [if_pos h]
theorem err_form {s : Int} {L : List Nd} (h : ¬ (s ≠ 1 ∧ s ≠ 2)) (hr : (res L).2 = false) : errOf s L = some ([(dsB, ((res L).1 : Int)), (dcB, ((res L).1 : Int))], 5) := by unfold errOf; rw [if_neg h, if_pos hr]
theorem err_long {s : Int} {L : List Nd} (h : ¬ (s ≠ 1 ∧ s ≠ 2)) (hr : (res L).2 = true) (hl : 1048576 < (encS s).szP L) : errOf s L = some ([(dsB, 1048576)], 121) := by unfold errOf; rw [if_neg h, if_neg (by rw [hr]; decide), if_pos hl]
theorem err_none {s : Int} {L : List Nd} (h : ¬ (s ≠ 1 ∧ s ≠ 2)) (hr : (res L).2 = true) (hl : ¬ 1048576 < (encS s).szP L) : errOf s L = none := by unfold errOf; rw [if_neg h, if_neg (by rw [hr]; decide), if_neg hl]
theorem res_wf {L : List Nd} (h : (res L).2 = true) : wf elemOk itemOk L.length false L := run_wf0 elem_n item_n L.length L 0 0 0 (Nat.le_refl _) h
theorem res_good {L : List Nd} (h : (res L).2 = true) : Good L := wf_good _ _ _ (res_wf h)

set_option maxRecDepth 100000 in
theorem refuseN_any (w : World) (a c : Int) : Calls Tryz.prog 31 #[.int .i64 a, .iface 69 (.int .i64 c)] w fun e w' => ∃ ve, e = .returned ve ∧ Hid (Chain w' [(dsB, a)] c ve) ∧ Hid (Below w.heap.size w w') := by
  go_enter Tryz.func31, Tryz.ntmps31
  go_wp2
  go_ret
  exact ⟨_, rfl, ⟨w.heap.size, _, rfl, by simp [dsB], by simp, by simp, rfl⟩, (Below.refl _ _).alloc (Nat.le_refl _) _⟩
set_option maxRecDepth 100000 in
theorem syntax_I (w : World) : Calls Tryz.prog 30 #[.int .i64 1] w fun e w' => e = .returned (.tuple #[.iface 107 (.agg #[]), .nilIface]) ∧ w = w' := by
  go_enter Tryz.func30, Tryz.ntmps30
  go_wp2
  exact bodyPost_ret (by simp [results, Tryz.results30, go_sem]) rfl ⟨rfl, rfl⟩
set_option maxRecDepth 100000 in
theorem syntax_E (w : World) : Calls Tryz.prog 30 #[.int .i64 2] w fun e w' => e = .returned (.tuple #[.iface 108 (.agg #[]), .nilIface]) ∧ w = w' := by
  go_enter Tryz.func30, Tryz.ntmps30
  go_wp2
  exact bodyPost_ret (by simp [results, Tryz.results30, go_sem]) rfl ⟨rfl, rfl⟩
set_option maxRecDepth 100000 in
theorem syntax_no (w : World) (s : Int) (h : s ≠ 1 ∧ s ≠ 2) : Calls Tryz.prog 30 #[.int .i64 s] w fun e w' => ∃ q, e = .returned (.tuple #[.nilIface, .iface 70 (.pointer (some ⟨q, 0, none⟩))]) ∧ Hid (Chain w' [(dsB, 0)] 120 (.iface 70 (.pointer (some ⟨q, 0, none⟩)))) ∧ Hid (Below w.heap.size w w') := by
  have b1 : (s == 1) = false := beq_eq_false_iff_ne.2 h.1
  have b2 : (s == 2) = false := beq_eq_false_iff_ne.2 h.2
  have c := refuseN_any w 0 120
  clear h
  go_enter Tryz.func30, Tryz.ntmps30
  go_wp2_with (go_at_call 31; refine StopB.out ?_)
  refine ⟨Calls.mono c ?_⟩
  rintro e W1 ⟨ve, rfl, hc, hb⟩
  obtain ⟨q, u, rfl, hr⟩ := hc.out
  clear hr
  go_wp2
  exact bodyPost_ret (v := .tuple #[.nilIface, .iface 70 (.pointer (some ⟨q, 0, none⟩))]) (by simp [results, Tryz.results30, go_sem]) rfl ⟨q, rfl, hc, hb⟩
end Go.Proofs.YtoikdpjjcnmgeaaGreatDoor
end
