import Derived.Test.YtfoodjhffehgpaaGreatDoorBa
import Derived.Deep.RegionLawGrows
import Derived.WideMake
import Derived.Test.YtfoodjhffehgpaaGreatDoorLa
import Derived.Deep.AppendLies
import Derived.Room.AppendFits
import Derived.Test.YtfoodjhffehgpaaGreatDoorVc
import Derived.Deep.RegionHeld3
import Derived.Deep.Heap
section
/-
  DERIVED. Errors in chains, told.
-/
namespace Go.Proofs.YtfoodjhffehgpaaGreatDoor
open Go Go.Proofs Go.RowKit

theorem infoLk : (Tryz.prog.info? 66).map (fun i => (i.zero, i.size, i.bytes)) = some (some (.agg #[.string { data := #[] }, .int .i64 0]), 2, 24) := by kernel_rfl
/-- A link: the layer, the place. -/
abbrev Lk := ByteArray × Int
def lkc (l : List Lk) : List Value := l.flatMap fun x => [.string x.1, .int .i64 x.2]
theorem lkc_len : ∀ l : List Lk, (lkc l).length = l.length * 2
  | [] => rfl
  | x :: r => by
    show ([Value.string x.1, .int .i64 x.2] ++ lkc r).length = _
    rw [List.length_append, lkc_len r]
    simp
    omega
theorem lkc_snoc (l : List Lk) (x : Lk) : lkc (l ++ [x]) = lkc l ++ [.string x.1, .int .i64 x.2] := by
  unfold lkc
  rw [List.flatMap_append]
  simp
theorem lkc_get : ∀ (l : List Lk) (i : Nat) (h : i < l.length), (lkc l)[i * 2]? = some (.string (l[i]'h).1) ∧ (lkc l)[i * 2 + 1]? = some (.int .i64 (l[i]'h).2)
  | x :: r, 0, h => ⟨rfl, rfl⟩
  | x :: r, i + 1, h => by
    have ih := lkc_get r i (by simpa using h)
    have e : lkc (x :: r) = [Value.string x.1, .int .i64 x.2] ++ lkc r := rfl
    rw [e]
    constructor
    · rw [List.getElem?_append_right (by simp; omega), show (i + 1) * 2 - [Value.string x.1, .int .i64 x.2].length = i * 2 by simp; omega]; exact ih.1
    · rw [List.getElem?_append_right (by simp; omega), show (i + 1) * 2 + 1 - [Value.string x.1, .int .i64 x.2].length = i * 2 + 1 by simp; omega]; exact ih.2
/-- Faults behind one another, a number at the end. -/
def Chain (w : World) : List Lk → Int → Value → Prop
  | [], c, v => v = .iface 74 (.int .i64 c)
  | x :: r, c, v => ∃ q u, v = .iface 75 (.pointer (some ⟨q, 0, none⟩)) ∧ w.cell? ⟨q, 0, none⟩ = some (.string x.1) ∧ w.cell? ⟨q, 1, none⟩ = some (.int .i64 x.2) ∧ w.cell? ⟨q, 2, none⟩ = some u ∧ Chain w r c u
theorem Chain.on {w w' : World} (hb : Below w.heap.size w w') : ∀ {l : List Lk} {c : Int} {v : Value}, Chain w l c v → Chain w' l c v
  | [], _, _, h => h
  | _ :: _, _, _, ⟨q, u, h1, h2, h3, h4, h5⟩ => ⟨q, u, h1, (hb.cell (Rp.cell_lt h2)).trans h2, (hb.cell (Rp.cell_lt h3)).trans h3, (hb.cell (Rp.cell_lt h4)).trans h4, Chain.on hb h5⟩
theorem Chain.low {w w' : World} {B : Nat} (hb : Below B w w') (hB : w.heap.size ≤ B) : ∀ {l : List Lk} {c : Int} {v : Value}, Chain w l c v → Chain w' l c v := Chain.on (hb.mono hB)

/-- While an error is told. -/
structure TI (w wr : World) (R F : Nat) (done : List Lk) : Prop where
  r0 : wr.cell? ⟨R, 0, none⟩ = some (.slice none 0 0)
  r1 : wr.cell? ⟨R, 1, none⟩ = some (.int .i64 0)
  rf : ∀ i, wr.frozen? ⟨R, i, none⟩ = false
  f : ∃ ao cp, wr.cell? ⟨F, 0, none⟩ = some (.slice ao done.length cp) ∧ wr.ownsRow (F + 1) 66 2 (.slice ao done.length cp) done.length (lkc done)
  f1 : wr.cell? ⟨F, 1, none⟩ = some (.int .i64 0)
  ff : ∀ i, wr.frozen? ⟨F, i, none⟩ = false
  be : Below w.heap.size w wr
  sz : F < wr.heap.size

theorem TI.next {w wr W4 : World} {R F : Nat} {done : List Lk} {v : Value} {x : Lk} {g4 c4 : Nat} {o : Obj} (h : TI w wr R F done) (hR : R = w.heap.size) (hF : F = R + 1) (hvb : ∀ k, v.ownBlock = some k → F + 1 ≤ k)
    (ho : W4.ownsRow (F + 1) 66 2 (.slice (some ⟨g4, 0, none⟩) (done.length + 1) c4) (done.length + 1) (lkc done ++ [.string x.1, .int .i64 x.2])) (hg : (wr.alloc o).grownBy W4 v.ownBlock) :
    (∀ k, k < F + 1 → W4.heap[k]? = wr.heap[k]?) ∧ TI w (W4.setCell ⟨F, 0, none⟩ (.slice (some ⟨g4, 0, none⟩) (done.length + 1) c4)) R F (done ++ [x]) := by
  have hsz := h.sz
  have hk : ∀ k, k < F + 1 → W4.heap[k]? = wr.heap[k]? := fun k hk => (hg.block k (by simp; omega) (fun e => by have := hvb k e.symm; omega)).trans (Below.heap_alloc wr _ k (by omega))
  refine ⟨hk, ?_⟩
  have cR : ∀ i, (W4.setCell ⟨F, 0, none⟩ (.slice (some ⟨g4, 0, none⟩) (done.length + 1) c4)).cell? ⟨R, i, none⟩ = wr.cell? ⟨R, i, none⟩ := fun i => (Rp.cell_set_off (by omega)).trans (World.cell?_of_block (hk R (by omega)))
  have cF : ∀ i, W4.cell? ⟨F, i, none⟩ = wr.cell? ⟨F, i, none⟩ := fun i => World.cell?_of_block (hk F (by omega))
  obtain ⟨ao, cp, f0, -⟩ := h.f
  have hgb := ho.lt g4 rfl
  refine ⟨(cR 0).trans h.r0, (cR 1).trans h.r1, fun i => ?_, ⟨some ⟨g4, 0, none⟩, c4, ?_, ?_⟩, (Rp.cell_set_ne (by decide)).trans ((cF 1).trans h.f1), fun i => ?_, ?_, ?_⟩
  · rw [World.frozen?_setCell]; exact (World.frozen?_of_block (a := ⟨R, i, none⟩) (hk R (by omega))).trans (h.rf i)
  · rw [List.length_append]; exact Rp.cell_set_eq ((cF 0).trans f0)
  · rw [List.length_append, lkc_snoc]
    refine ⟨ho.1, ?_⟩
    rcases ho.2 with ⟨hv, _⟩ | ⟨g, cap, cur, hv, hb, hh, r⟩
    · cases hv
    · cases hv
      exact .inr ⟨g4, c4, cur, rfl, hb, (Below.heap_setCell _ _ _ g4 (by show g4 ≠ F; omega)).trans hh, r⟩
  · rw [World.frozen?_setCell]; exact (World.frozen?_of_block (a := ⟨F, i, none⟩) (hk F (by omega))).trans (h.ff i)
  · have hb4 : Below w.heap.size w W4 := ⟨hg.os.trans h.be.os, hg.tape.trans h.be.tape, hg.output.trans h.be.output, by have := hg.size; have := h.be.size; simp at *; omega, fun k hk' => (hk k (by omega)).trans (h.be.block k hk')⟩
    exact hb4.setCell (p := ⟨F, 0, none⟩) (by show w.heap.size ≤ F; omega) _
  · have := hg.size
    simp at this ⊢
    omega

end Go.Proofs.YtfoodjhffehgpaaGreatDoor
end

section
/-
  DERIVED. The layer's refusal with a number.
-/
namespace Go.Proofs.YtfoodjhffehgpaaGreatDoor
open Go Go.Proofs Go.RowKit

def dsB : ByteArray := { data := #[100, 97, 116, 97, 115, 101, 116] }
def dcB : ByteArray := { data := #[100, 105, 99, 116] }
set_option maxRecDepth 100000 in
theorem refuseD_any (w : World) (a c : Int) : Calls Tryz.prog 27 #[.int .i64 a, .iface 74 (.int .i64 c)] w fun e w' => ∃ q, e = .returned (.iface 75 (.pointer (some ⟨q, 0, none⟩))) ∧ Hid (Chain w' [(dsB, a)] c (.iface 75 (.pointer (some ⟨q, 0, none⟩)))) ∧ Hid (Below w.heap.size w w') := by
  go_enter Tryz.func27, Tryz.ntmps27
  go_wp2
  go_ret
  exact ⟨_, rfl, ⟨w.heap.size, _, rfl, by simp [dsB], by simp, by simp, rfl⟩, (Below.refl _ _).alloc (Nat.le_refl _) _⟩
end Go.Proofs.YtfoodjhffehgpaaGreatDoor
end

section
/-
  DERIVED. Nodes that are lent, with a mark behind them.
-/
namespace Go.Proofs.YtfoodjhffehgpaaGreatDoor.Wk
open Go Go.Proofs Go.RowKit

theorem info34 : (Tryz.prog.info? 48).map (fun i => (i.zero, i.size, i.bytes)) = some (some (.agg #[.int .u32 0, .int .i64 0, .int .i64 0, .string ⟨#[]⟩]), 4, 40) := by kernel_rfl
theorem info22 : (Tryz.prog.info? 22).map (fun i => (i.zero, i.size, i.bytes)) = some (some (.slice none 0 0), 1, 24) := by kernel_rfl
def mrk : Nd := ⟨2882382797, 0, 7, ⟨#[109, 97, 114, 107]⟩⟩

theorem take_nds {L : List Nd} {k : Nat} (h : k < L.length) : nds (L.take (k + 1)) = nds (L.take k) ++ (L[k]'h).cs := by
  rw [List.take_add_one, List.getElem?_eq_getElem h, nds_append]
  congr 1
theorem cs_one (a : Nd) : ∀ u ∈ a.cs, u.oneCell' = true := by
  intro u hu
  simp [Nd.cs] at hu
  rcases hu with rfl | rfl | rfl | rfl <;> rfl

/-- What was lent: the nodes in block g, a mark behind them. -/
def Lent (g : Nat) (L : List Nd) (base : Nat) (w : World) : Prop := w.ownsRow base 48 4 (.slice (some ⟨g, 0, none⟩) (L.length + 1) (L.length + 1)) (L.length + 1) (nds (L ++ [mrk]))

end Go.Proofs.YtfoodjhffehgpaaGreatDoor.Wk
end

section
/-
  DERIVED. A reader in memory; its bytes, tags, numbers; how it gives up.
-/
namespace Go.Proofs.YtfoodjhffehgpaaGreatDoor
open Go Go.Proofs Go.RowKit
open Wk (Nd nds)
open Go.Sort

def exV (x : Bool) : Value := if x = true then .iface 99 (.agg #[]) else .iface 98 (.agg #[])
def nodeV : Option Nat → Value
  | none => .int .i64 (-1)
  | some p => .int .i64 (p : Int)
/-- A span as cells. -/
def Sp.cs (x : Sp) : List Value := [nodeV x.node, .int .i64 (x.fin : Int), .bool x.opn, .bool x.it, exV x.ex, .int .u32 (x.last : Int)]
/-- Spans as cells, the outermost first. -/
def spc (st : List Sp) : List Value := st.reverse.flatMap Sp.cs
theorem spc_cons (x : Sp) (r : List Sp) : spc (x :: r) = spc r ++ x.cs := by
  unfold spc
  rw [List.reverse_cons, List.flatMap_append]
  simp
theorem cs_len (x : Sp) : x.cs.length = 6 := rfl
theorem spc_len : ∀ st : List Sp, (spc st).length = st.length * 6
  | [] => rfl
  | x :: r => by rw [spc_cons, List.length_append, spc_len r, cs_len]; simp; omega
theorem spc_head (x : Sp) (r : List Sp) (j : Nat) (hj : j < 6) : (spc (x :: r))[r.length * 6 + j]? = x.cs[j]? := by
  have h := spc_len r
  rw [spc_cons, List.getElem?_append_right (by omega), show r.length * 6 + j - (spc r).length = j by omega]
theorem spc_take (x : Sp) (r : List Sp) : (spc (x :: r)).take (r.length * 6) = spc r := by
  rw [spc_cons, List.take_left' (spc_len r)]
theorem spc_last (x : Sp) (r : List Sp) (t : Nat) : (spc (x :: r)).set (r.length * 6 + 5) (.int .u32 (t : Int)) = spc ({ x with last := t } :: r) := by
  have h := spc_len r
  rw [spc_cons, spc_cons, ← h, List.set_append_right _ _ (by omega), show (spc r).length + 5 - (spc r).length = 5 by omega]
  rfl
theorem info112 : (Tryz.prog.info? 103).map (fun i => (i.zero, i.size, i.bytes)) = some (some (.agg #[.int .i64 0, .int .i64 0, .bool false, .bool false, .nilIface, .int .u32 0]), 6, 48) := by kernel_rfl

/-- Bytes that lie in older memory. -/
structure BV (base : Nat) (W : World) (a : Option Addr) (n cap : Nat) (ys : List UInt8) : Prop where
  l : n = ys.length
  c : n ≤ cap
  s : n ≤ 1048576
  m : ∀ k, k < n → ∃ b off, a = some ⟨b, off, none⟩ ∧ b < base ∧ W.cell? ⟨b, off + k, none⟩ = some (.int .u8 (gB ys k : Int))
theorem BV.on {base : Nat} {W W' : World} {a : Option Addr} {n cap : Nat} {ys : List UInt8} (h : BV base W a n cap ys) (hb : Below base W W') : BV base W' a n cap ys :=
  ⟨h.l, h.c, h.s, fun k hk => by obtain ⟨b, off, e, h1, h2⟩ := h.m k hk; exact ⟨b, off, e, h1, (hb.cell (p := ⟨b, off + k, none⟩) h1).trans h2⟩⟩
theorem BV.at {base : Nat} {W : World} {a : Option Addr} {n cap : Nat} {ys : List UInt8} (h : BV base W a n cap ys) (hn : 0 < n) : ∃ b off, a = some ⟨b, off, none⟩ ∧ b < base ∧ ∀ k, k < n → W.cell? ⟨b, off + k, none⟩ = some (.int .u8 (gB ys k : Int)) := by
  obtain ⟨b, off, e, h1, _⟩ := h.m 0 hn
  refine ⟨b, off, e, h1, fun k hk => ?_⟩
  obtain ⟨b', off', e', _, h2⟩ := h.m k hk
  rw [e] at e'
  cases e'
  exact h2

/-- A reader in memory. -/
structure PR (base rb : Nat) (bv : Value) (W : World) (k : Nat) (M : List Nd) (st : List Sp) (nv sv : Value) : Prop where
  c0 : W.cell? ⟨rb, 0, none⟩ = some bv
  c1 : W.cell? ⟨rb, 1, none⟩ = some (.int .i64 (k : Int))
  c2 : W.cell? ⟨rb, 2, none⟩ = some nv
  c3 : W.cell? ⟨rb, 3, none⟩ = some sv
  fz : ∀ i, W.frozen? ⟨rb, i, none⟩ = false
  ty : ∃ cs, W.heap[rb]? = some (.cells cs 106)
  nd : W.ownsRow base 48 4 nv M.length (nds M)
  sp : W.ownsRow base 103 6 sv st.length (spc st)
  hb : base ≤ rb
  nz : M.length = 0 → nv = .slice none 0 0
theorem PR.on {base rb : Nat} {bv nv sv : Value} {W W' : World} {k : Nat} {M : List Nd} {st : List Sp} (h : PR base rb bv W k M st nv sv) (hb : Below W.heap.size W W') : PR base rb bv W' k M st nv sv :=
  ⟨(hb.cell (Rp.cell_lt h.c0)).trans h.c0, (hb.cell (Rp.cell_lt h.c1)).trans h.c1, (hb.cell (Rp.cell_lt h.c2)).trans h.c2, (hb.cell (Rp.cell_lt h.c3)).trans h.c3, fun i => (hb.frozen (p := ⟨rb, i, none⟩) (show rb < _ from Rp.cell_lt h.c0)).trans (h.fz i), by
    obtain ⟨cs, e⟩ := h.ty
    exact ⟨cs, (hb.block rb (Rp.cell_lt h.c0)).trans e⟩, Wk.ownsRow_below h.nd hb (Nat.le_refl _), Wk.ownsRow_below h.sp hb (Nat.le_refl _), h.hb, h.nz⟩
theorem PR.form {base rb : Nat} {bv nv sv : Value} {W : World} {k : Nat} {M : List Nd} {x : Sp} {r : List Sp} (h : PR base rb bv W k M (x :: r) nv sv) : ∃ g cap, sv = .slice (some ⟨g, 0, none⟩) (r.length + 1) cap ∧ base ≤ g ∧ r.length + 1 ≤ cap := by
  rcases h.sp.2 with ⟨_, h0⟩ | ⟨g, cap, cur, e, hb, _, hc, _⟩
  · simp at h0
  · exact ⟨g, cap, e, hb, hc⟩
/-- The innermost span's cells. -/
structure SC (W : World) (g m : Nat) (x : Sp) : Prop where
  s0 : W.cell? ⟨g, m * 6, none⟩ = some (nodeV x.node)
  s1 : W.cell? ⟨g, m * 6 + 1, none⟩ = some (.int .i64 (x.fin : Int))
  s2 : W.cell? ⟨g, m * 6 + 2, none⟩ = some (.bool x.opn)
  s3 : W.cell? ⟨g, m * 6 + 3, none⟩ = some (.bool x.it)
  s4 : W.cell? ⟨g, m * 6 + 4, none⟩ = some (exV x.ex)
  s5 : W.cell? ⟨g, m * 6 + 5, none⟩ = some (.int .u32 (x.last : Int))
theorem PR.sc {base rb g cap : Nat} {bv nv : Value} {W : World} {k : Nat} {M : List Nd} {x : Sp} {r : List Sp} (h : PR base rb bv W k M (x :: r) nv (.slice (some ⟨g, 0, none⟩) (r.length + 1) cap)) : SC W g r.length x := by
  have h1 := World.ownsRow.cellAt (n := r.length + 1) h.sp
  have h2 : ∀ j, j < 6 → W.cell? ⟨g, r.length * 6 + j, none⟩ = x.cs[j]? := fun j hj => (h1 _ (by omega)).trans (spc_head x r j hj)
  exact ⟨h2 0 (by decide), h2 1 (by decide), h2 2 (by decide), h2 3 (by decide), h2 4 (by decide), h2 5 (by decide)⟩
theorem SC.on {W W' : World} {g m : Nat} {x : Sp} (h : SC W g m x) (hb : Below W.heap.size W W') : SC W' g m x :=
  ⟨(hb.cell (Rp.cell_lt h.s0)).trans h.s0, (hb.cell (Rp.cell_lt h.s1)).trans h.s1, (hb.cell (Rp.cell_lt h.s2)).trans h.s2, (hb.cell (Rp.cell_lt h.s3)).trans h.s3, (hb.cell (Rp.cell_lt h.s4)).trans h.s4, (hb.cell (Rp.cell_lt h.s5)).trans h.s5⟩

set_option maxRecDepth 100000 in
/-- The innermost span. -/
theorem inner_any (w : World) (rb g m cap : Nat) (hm : m ≤ 4000000) (c3 : w.cell? ⟨rb, 3, none⟩ = some (.slice (some ⟨g, 0, none⟩) (m + 1) cap)) :
    Calls Tryz.prog 43 #[.pointer (some ⟨rb, 0, none⟩)] w fun e w' => e = .returned (.pointer (some ⟨g, m * 6, none⟩)) ∧ Below w.heap.size w w' := by
  have hw : IntKind.i64.wrap (m : Int) = (m : Int) := by rw [IntKind.wrap_i64]; omega
  have hi : (m : Int) < (m : Int) + 1 := by omega
  have k3 := fun d os => cell_regrown c3 d os
  go_enter Tryz.func43, Tryz.ntmps43
  go_wp2
  refine wp_region_quiet_below hmix (by kernel_rfl) ?_
  repeat (quiet_step (fail))
  refine wpQuiet_nil ?_
  intro _ hw'
  obtain ⟨⟨dq, osq⟩, hw''⟩ := hw'
  subst hw''
  go_wp2
  go_ret
  refine ⟨?_, below_regrown _ _ _⟩
  rfl

/-- How a reader gives up. -/
def Pan (W : World) (k c : Nat) (e : Ending) : Prop := ∃ q, e = .panicked [{ v := .iface 75 (.pointer (some ⟨q, 0, none⟩)), recovered := false }] ∧ Chain W [(dsB, (k : Int))] (c : Int) (.iface 75 (.pointer (some ⟨q, 0, none⟩)))
theorem Pan.on {W W' : World} {k c : Nat} {e : Ending} (h : Pan W k c e) (hb : Below W.heap.size W W') : Pan W' k c e := by
  obtain ⟨q, h1, h2⟩ := h
  exact ⟨q, h1, h2.on hb⟩
set_option maxRecDepth 100000 in
theorem giveUp_any (w : World) (rb k c : Nat) (c1 : w.cell? ⟨rb, 1, none⟩ = some (.int .i64 (k : Int))) :
    Calls Tryz.prog 65 #[.pointer (some ⟨rb, 0, none⟩), .int .i64 (c : Int)] w fun e w' => Hid (Pan w' k c e) ∧ Hid (Below w.heap.size w w') := by
  have c31 := refuseD_any w (k : Int) (c : Int)
  go_enter Tryz.func65, Tryz.ntmps65
  go_wp2_with (go_at_call 27; refine StopV.out ?_)
  refine ⟨Calls.mono c31 ?_⟩
  rintro e W1 ⟨q, rfl, HC, HB⟩
  go_wp2
  exact ⟨rfl, ⟨q, rfl, HC.out⟩, HB.out⟩

/-- The reader asks at least so many bytes of the innermost span. -/
def NeedP (w : World) (k : Nat) (short : Bool) (e : Ending) (w' : World) : Prop := (if short = true then Pan w' k 122 e else e = .returned (.tuple #[])) ∧ Below w.heap.size w w'
set_option maxRecDepth 100000 in
set_option maxHeartbeats 1000000 in
theorem need_any (w : World) (rb g m cap k fin z : Nat) (hm : m ≤ 4000000) (c1 : w.cell? ⟨rb, 1, none⟩ = some (.int .i64 (k : Int))) (c3 : w.cell? ⟨rb, 3, none⟩ = some (.slice (some ⟨g, 0, none⟩) (m + 1) cap)) (s1 : w.cell? ⟨g, m * 6 + 1, none⟩ = some (.int .i64 (fin : Int))) (hk : k ≤ fin) (hf : fin ≤ 1048576) :
    Calls Tryz.prog 61 #[.pointer (some ⟨rb, 0, none⟩), .int .i64 (z : Int)] w (NeedP w k (decide (fin - k < z))) := by
  have k1 := fun d os => cell_regrown c1 d os
  have k3 := fun d os => cell_regrown s1 d os
  have cM : ∀ d os, Calls Tryz.prog 43 #[.pointer (some ⟨rb, 0, none⟩)] (grow (redrawn w d) os) fun x w'' => x = .returned (.pointer (some ⟨g, m * 6, none⟩)) ∧ ∃ p : Regrown, w'' = grow (redrawn w p.d) p.os := fun d os => Calls.regrown_of (inner_any _ rb g m cap hm (cell_regrown c3 d os))
  have CG : Hid (∀ W, Below w.heap.size w W → Calls Tryz.prog 65 #[.pointer (some ⟨rb, 0, none⟩), .int .i64 122] W fun e w' => Hid (Pan w' k 122 e) ∧ Hid (Below W.heap.size W w')) := fun W hb => giveUp_any W rb k 122 ((hb.cell (Rp.cell_lt c1)).trans c1)
  clear c1 c3 s1
  have hw : IntKind.i64.wrap ((fin : Int) - (k : Int)) = (fin : Int) - (k : Int) := by rw [IntKind.wrap_i64]; omega
  by_cases hs : fin - k < z
  · have hd : decide ((fin : Int) - (k : Int) < (z : Int)) = true := decide_eq_true (by omega)
    rw [decide_eq_true hs]
    clear hs hk hf
    go_enter Tryz.func61, Tryz.ntmps61
    go_wp2
    refine wp_region_quiet_below hmix (by kernel_rfl) ?_
    repeat (quiet_step (first | exact cM _ _))
    refine wpQuiet_nil ?_
    intro _ hw'
    obtain ⟨⟨dq, osq⟩, hw''⟩ := hw'
    subst hw''
    have hbq := below_regrown w dq osq
    generalize grow (redrawn w dq) osq = W1 at hbq
    go_wp2_with (go_at_call 65; refine StopV.out ?_)
    refine ⟨Calls.mono (CG.out W1 hbq) ?_⟩
    rintro e W2 ⟨⟨q, rfl, hc⟩, HB⟩
    exact ⟨rfl, ⟨q, rfl, hc⟩, hbq.trans (HB.out.mono hbq.size)⟩
  · have hd : decide ((fin : Int) - (k : Int) < (z : Int)) = false := decide_eq_false (by omega)
    rw [decide_eq_false hs]
    clear hs hk hf
    go_enter Tryz.func61, Tryz.ntmps61
    go_wp2
    refine wp_region_quiet_below hmix (by kernel_rfl) ?_
    repeat (quiet_step (first | exact cM _ _))
    refine wpQuiet_nil ?_
    intro _ hw'
    obtain ⟨⟨dq, osq⟩, hw''⟩ := hw'
    subst hw''
    have hbq := below_regrown w dq osq
    generalize grow (redrawn w dq) osq = W1 at hbq
    go_wp2
    exact bodyPost_end (results_none rfl _ _ _) rfl ⟨rfl, hbq⟩
end Go.Proofs.YtfoodjhffehgpaaGreatDoor
end

section
/-
  DERIVED. A reader's bytes: parts, tags, numbers; small questions of heads.
-/
namespace Go.Proofs.YtfoodjhffehgpaaGreatDoor
open Go Go.Proofs Go.RowKit
open Wk (Nd nds)
open Go.Sort

set_option maxRecDepth 100000 in
/-- Some bytes of what is looked at. -/
theorem cut_any (w : World) (rb b off n cap k f z : Nat) (hz : 0 < z) (hn : k + f + z ≤ n) (hc : n ≤ cap) (hs : n ≤ 1048576) (c0 : w.cell? ⟨rb, 0, none⟩ = some (.slice (some ⟨b, off, none⟩) n cap)) (c1 : w.cell? ⟨rb, 1, none⟩ = some (.int .i64 (k : Int))) :
    Calls Tryz.prog 76 #[.pointer (some ⟨rb, 0, none⟩), .int .i64 (f : Int), .int .i64 (z : Int)] w fun e w' => e = .returned (.slice (some ⟨b, off + (f + k), none⟩) z z) ∧ w = w' := by
  have h1 : IntKind.i64.wrap ((f : Int) + (k : Int)) = ((f + k : Nat) : Int) := by rw [IntKind.wrap_i64]; omega
  have h2 : IntKind.i64.wrap (((f + k : Nat) : Int) + (z : Int)) = ((f + k + z : Nat) : Int) := by rw [IntKind.wrap_i64]; omega
  obtain ⟨q, hq⟩ : ∃ q, f + k = q := ⟨_, rfl⟩
  rw [hq] at h1 h2 ⊢
  have hqz : q + z ≤ cap := by omega
  have hi : (q : Int) ≤ ((q + z : Nat) : Int) := by omega
  clear hq hn
  go_enter Tryz.func76, Tryz.ntmps76
  go_wp2
  go_ret
  refine ⟨?_, rfl⟩
  show Ending.returned (.slice (some ⟨b, off + q, none⟩) (q + z - q) (q + z - q)) = _
  rw [Nat.add_sub_cancel_left]

set_option maxRecDepth 100000 in
/-- No bytes of what is looked at. -/
theorem cut0_any (w : World) (rb b off n cap k f : Nat) (hn : k + f ≤ n) (hc : n ≤ cap) (hs : n ≤ 1048576) (c0 : w.cell? ⟨rb, 0, none⟩ = some (.slice (some ⟨b, off, none⟩) n cap)) (c1 : w.cell? ⟨rb, 1, none⟩ = some (.int .i64 (k : Int))) :
    Calls Tryz.prog 76 #[.pointer (some ⟨rb, 0, none⟩), .int .i64 (f : Int), .int .i64 0] w fun e w' => e = .returned (.slice (some ⟨b, off, none⟩) 0 0) ∧ w = w' := by
  have h1 : IntKind.i64.wrap ((f : Int) + (k : Int)) = ((f + k : Nat) : Int) := by rw [IntKind.wrap_i64]; omega
  obtain ⟨q, hq⟩ : ∃ q, f + k = q := ⟨_, rfl⟩
  rw [hq] at h1
  have hqz : q ≤ cap := by omega
  have h2 : wrap64 (q : Int) = (q : Int) := by unfold wrap64; omega
  clear hq hn
  go_enter Tryz.func76, Tryz.ntmps76
  go_wp2
  go_ret
  refine ⟨?_, rfl⟩
  simp

set_option maxRecDepth 100000 in
theorem tag_any (w : World) (rb b off n cap k : Nat) (ys : List UInt8) (hn : k + 4 ≤ n) (hc : n ≤ cap) (hs : n ≤ 1048576) (c0 : w.cell? ⟨rb, 0, none⟩ = some (.slice (some ⟨b, off, none⟩) n cap)) (c1 : w.cell? ⟨rb, 1, none⟩ = some (.int .i64 (k : Int))) (hb : ∀ j, j < n → w.cell? ⟨b, off + j, none⟩ = some (.int .u8 (gB ys j : Int))) :
    Calls Tryz.prog 62 #[.pointer (some ⟨rb, 0, none⟩)] w fun e w' => e = .returned (.int .u32 (tagS ys k : Int)) ∧ Below w.heap.size w w' := by
  have hc1 : Calls Tryz.prog 76 #[.pointer (some ⟨rb, 0, none⟩), .int .i64 0, .int .i64 4] w fun e w' => e = .returned (.slice (some ⟨b, off + k, none⟩) 4 4) ∧ w = w' := by
    have := cut_any w rb b off n cap k 0 4 (by decide) (by omega) hc hs c0 c1
    rw [Nat.zero_add] at this
    exact this
  have hc2 := tagIn_any w b (off + k) (gB ys k) (gB ys (k + 1)) (gB ys (k + 2)) (gB ys (k + 3)) (hb k (by omega)) (by have := hb (k + 1) (by omega); rw [← Nat.add_assoc] at this; exact this) (by have := hb (k + 2) (by omega); rw [← Nat.add_assoc] at this; exact this) (by have := hb (k + 3) (by omega); rw [← Nat.add_assoc] at this; exact this) (gB_lt _ _) (gB_lt _ _) (gB_lt _ _) (gB_lt _ _)
  have e : (gB ys k + 256 * gB ys (k + 1)) * 65536 + (gB ys (k + 2) + 256 * gB ys (k + 3)) = tagS ys k := rfl
  rw [e] at hc2
  generalize tagS ys k = T at hc2 ⊢
  clear e hb c0 c1
  go_enter Tryz.func62, Tryz.ntmps62
  go_wp2_with (go_at_call 76; refine StopV.out ?_)
  refine ⟨Calls.mono hc1 ?_⟩
  rintro e w' ⟨rfl, rfl⟩
  go_wp2_with (go_at_call 82; refine StopV.out ?_)
  refine ⟨Calls.mono hc2 ?_⟩
  rintro e w' ⟨rfl, hB⟩
  go_wp2
  go_ret
  exact ⟨rfl, hB⟩
set_option maxRecDepth 100000 in
/-- Four bytes as a number. -/
theorem number4_any (w : World) (rb b off n cap k f : Nat) (ys : List UInt8) (hn : k + f + 4 ≤ n) (hc : n ≤ cap) (hs : n ≤ 1048576) (c0 : w.cell? ⟨rb, 0, none⟩ = some (.slice (some ⟨b, off, none⟩) n cap)) (c1 : w.cell? ⟨rb, 1, none⟩ = some (.int .i64 (k : Int))) (hb : ∀ j, j < n → w.cell? ⟨b, off + j, none⟩ = some (.int .u8 (gB ys j : Int))) :
    Calls Tryz.prog 64 #[.pointer (some ⟨rb, 0, none⟩), .int .i64 (f : Int), .int .i64 4] w fun e w' => e = .returned (.int .u32 (numS ys (k + f) : Int)) ∧ w = w' := by
  have hc1 : Calls Tryz.prog 76 #[.pointer (some ⟨rb, 0, none⟩), .int .i64 (f : Int), .int .i64 4] w fun e w' => e = .returned (.slice (some ⟨b, off + (f + k), none⟩) 4 4) ∧ w = w' := cut_any w rb b off n cap k f 4 (by decide) (by omega) hc hs c0 c1
  rw [Nat.add_comm f k] at hc1
  have hc2 := num4_any w b (off + (k + f)) 4 (gB ys (k + f)) (gB ys (k + f + 1)) (gB ys (k + f + 2)) (gB ys (k + f + 3)) (hb (k + f) (by omega)) (by have := hb (k + f + 1) (by omega); rw [← Nat.add_assoc off] at this; exact this) (by have := hb (k + f + 2) (by omega); rw [← Nat.add_assoc off] at this; exact this) (by have := hb (k + f + 3) (by omega); rw [← Nat.add_assoc off] at this; exact this) (gB_lt _ _) (gB_lt _ _) (gB_lt _ _) (gB_lt _ _)
  have e : gB ys (k + f) + 256 * gB ys (k + f + 1) + 65536 * (gB ys (k + f + 2) + 256 * gB ys (k + f + 3)) = numS ys (k + f) := rfl
  rw [e] at hc2
  generalize numS ys (k + f) = T at hc2 ⊢
  clear e hb c0 c1
  go_enter Tryz.func64, Tryz.ntmps64
  go_wp2_with (go_at_call 76; refine StopV.out ?_)
  refine ⟨Calls.mono hc1 ?_⟩
  rintro e w' ⟨rfl, rfl⟩
  go_wp2_with (go_at_call 83; refine StopV.out ?_)
  refine ⟨Calls.mono hc2 ?_⟩
  rintro e w' ⟨rfl, rfl⟩
  go_wp2
  go_ret
  exact ⟨rfl, rfl⟩
set_option maxRecDepth 100000 in
/-- Two bytes as a number. -/
theorem number2_any (w : World) (rb b off n cap k f : Nat) (ys : List UInt8) (hn : k + f + 2 ≤ n) (hc : n ≤ cap) (hs : n ≤ 1048576) (c0 : w.cell? ⟨rb, 0, none⟩ = some (.slice (some ⟨b, off, none⟩) n cap)) (c1 : w.cell? ⟨rb, 1, none⟩ = some (.int .i64 (k : Int))) (hb : ∀ j, j < n → w.cell? ⟨b, off + j, none⟩ = some (.int .u8 (gB ys j : Int))) :
    Calls Tryz.prog 64 #[.pointer (some ⟨rb, 0, none⟩), .int .i64 (f : Int), .int .i64 2] w fun e w' => e = .returned (.int .u32 (u16S ys (k + f) : Int)) ∧ w = w' := by
  have hc1 : Calls Tryz.prog 76 #[.pointer (some ⟨rb, 0, none⟩), .int .i64 (f : Int), .int .i64 2] w fun e w' => e = .returned (.slice (some ⟨b, off + (f + k), none⟩) 2 2) ∧ w = w' := cut_any w rb b off n cap k f 2 (by decide) (by omega) hc hs c0 c1
  rw [Nat.add_comm f k] at hc1
  have hc2 := num2_any w b (off + (k + f)) 2 (gB ys (k + f)) (gB ys (k + f + 1)) (hb (k + f) (by omega)) (by have := hb (k + f + 1) (by omega); rw [← Nat.add_assoc off] at this; exact this) (gB_lt _ _) (gB_lt _ _)
  have e : gB ys (k + f) + 256 * gB ys (k + f + 1) = u16S ys (k + f) := rfl
  rw [e] at hc2
  generalize u16S ys (k + f) = T at hc2 ⊢
  clear e hb c0 c1
  go_enter Tryz.func64, Tryz.ntmps64
  go_wp2_with (go_at_call 76; refine StopV.out ?_)
  refine ⟨Calls.mono hc1 ?_⟩
  rintro e w' ⟨rfl, rfl⟩
  go_wp2_with (go_at_call 83; refine StopV.out ?_)
  refine ⟨Calls.mono hc2 ?_⟩
  rintro e w' ⟨rfl, rfl⟩
  go_wp2
  go_ret
  exact ⟨rfl, rfl⟩

set_option maxRecDepth 100000 in
theorem mark_any (w : World) (g m : Nat) (it : Bool) (s3 : w.cell? ⟨g, m * 6 + 3, none⟩ = some (.bool it)) : Calls Tryz.prog 63 #[.pointer (some ⟨g, m * 6, none⟩)] w fun e w' => e = .returned (.int .u32 (mark it : Int)) ∧ w = w' := by
  cases it
  all_goals go_enter Tryz.func63, Tryz.ntmps63
  all_goals go_wp2
  all_goals go_ret
  all_goals exact ⟨rfl, rfl⟩
set_option maxRecDepth 100000 in
theorem odd_any (w : World) (n : Nat) (hn : n < 4294967296) : Calls Tryz.prog 66 #[.int .u32 (n : Int)] w fun e w' => e = .returned (.bool (!decide (n = und) && decide (n % 2 = 1))) ∧ w = w' := by
  by_cases hu : n = und
  · have e : (!decide (n = und) && decide (n % 2 = 1)) = false := by rw [decide_eq_true hu]; rfl
    rw [e, hu]
    show Calls Tryz.prog 66 #[.int .u32 4294967295] w _
    go_enter Tryz.func66, Tryz.ntmps66
    go_wp2
    go_ret
    exact ⟨rfl, rfl⟩
  · have e : (!decide (n = und) && decide (n % 2 = 1)) = ((n : Int) % 2 == 1) := by rw [decide_eq_false hu]; simp only [Bool.not_false, Bool.true_and]; rw [show ((n : Int) % 2 == 1) = decide ((n : Int) % 2 = 1) from rfl]; exact decide_eq_decide.2 (by omega)
    rw [e]
    have b1 : ((n : Int) != 4294967295) = true := bne_iff_ne.2 (by unfold und at hu; omega)
    have b2 : ((n : Int) == 4294967295) = false := beq_eq_false_iff_ne.2 (by unfold und at hu; omega)
    have hm : (n : Int).tmod 2 = (n : Int) % 2 := by rw [Int.tmod_eq_emod_of_nonneg (by omega)]
    clear e
    go_enter Tryz.func66, Tryz.ntmps66
    go_wp2
    go_ret
    exact ⟨rfl, rfl⟩
end Go.Proofs.YtfoodjhffehgpaaGreatDoor
end

section
/-
  DERIVED. What a store leaves of a reader; its end of a span.
-/
namespace Go.Proofs.YtfoodjhffehgpaaGreatDoor
open Go Go.Proofs Go.RowKit
open Wk (Nd nds)
open Go.Sort

theorem own_same {W W' : World} {base : Nat} {e : TypeId} {size : Nat} {v : Value} {n : Nat} {xs : List Value} (h : W.ownsRow base e size v n xs) (hk : ∀ (g : Nat) (cur : Array Value), W.heap[g]? = some (Obj.cells cur e) → W'.heap[g]? = W.heap[g]?) : W'.ownsRow base e size v n xs := by
  refine ⟨h.1, h.2.imp id ?_⟩
  rintro ⟨g, cap, cur, h1, h2, h3, h4⟩
  exact ⟨g, cap, cur, h1, h2, (hk g cur h3).trans h3, h4⟩
theorem ty_set {W : World} {rb i : Nat} {v : Value} {t : TypeId} (h : ∃ cs, W.heap[rb]? = some (Obj.cells cs t)) : ∃ cs, (W.setCell ⟨rb, i, none⟩ v).heap[rb]? = some (Obj.cells cs t) := by
  obtain ⟨cs, h⟩ := h
  exact ⟨_, heap_setCell_same W rb i cs t v h⟩
/-- A store into the reader itself. -/
theorem PR.set {base rb : Nat} {bv nv sv : Value} {W : World} {k : Nat} {M : List Nd} {st : List Sp} (h : PR base rb bv W k M st nv sv) (i : Nat) (x : Value) :
    (W.setCell ⟨rb, i, none⟩ x).ownsRow base 48 4 nv M.length (nds M) ∧ (W.setCell ⟨rb, i, none⟩ x).ownsRow base 103 6 sv st.length (spc st) ∧ (∃ cs, (W.setCell ⟨rb, i, none⟩ x).heap[rb]? = some (Obj.cells cs 106)) := by
  obtain ⟨cs, ht⟩ := h.ty
  have hk : ∀ e : TypeId, e ≠ 106 → ∀ (g : Nat) (cur : Array Value), W.heap[g]? = some (Obj.cells cur e) → (W.setCell ⟨rb, i, none⟩ x).heap[g]? = W.heap[g]? := fun e he g cur hg => heap_setCell_other W ⟨rb, i, none⟩ g x (fun hc => by
    have hc : g = rb := hc
    rw [hc, ht] at hg
    cases hg
    exact he rfl)
  exact ⟨own_same h.nd (hk 48 (by decide)), own_same h.sp (hk 103 (by decide)), ty_set h.ty⟩
theorem PR.setAt {base rb : Nat} {bv nv sv : Value} {W : World} {k : Nat} {M : List Nd} {st : List Sp} (h : PR base rb bv W k M st nv sv) (j : Nat) : PR base rb bv (W.setCell ⟨rb, 1, none⟩ (.int .i64 (j : Int))) j M st nv sv := by
  obtain ⟨a, b, c⟩ := h.set 1 (.int .i64 (j : Int))
  exact ⟨(Rp.cell_set_ne (by decide)).trans h.c0, Rp.cell_set_eq h.c1, (Rp.cell_set_ne (by decide)).trans h.c2, (Rp.cell_set_ne (by decide)).trans h.c3, fun i => by simpa using h.fz i, c, a, b, h.hb, h.nz⟩

inductive EndR where
  | bad (c : Nat)
  | yes (k : Nat)
  | no
def endS (S : Src) (k : Nat) (sp : Sp) : EndR :=
  if sp.opn = false ∧ k = sp.fin then .yes k
  else if sp.fin - k < 8 then .bad 122
  else if sp.opn = true ∧ S.tag k = mark sp.it then (if S.num (k + 4) ≠ 0 then .bad 125 else .yes (k + 8))
  else .no
theorem step_end (S : Src) (k : Nat) (M : List Nd) (sp : Sp) (rest : List Sp) : step S k M sp rest = match endS S k sp with
    | .bad c => .bad k c
    | .yes k' => .go k' M rest
    | .no => if sp.it = true then stepI S k M sp rest else stepE S k M sp rest := by
  unfold step endS
  by_cases h1 : sp.opn = false ∧ k = sp.fin
  · rw [if_pos h1, if_pos h1]
  rw [if_neg h1, if_neg h1]
  by_cases h2 : sp.fin - k < 8
  · rw [if_pos h2, if_pos h2]
  rw [if_neg h2, if_neg h2]
  by_cases h3 : sp.opn = true ∧ S.tag k = mark sp.it
  · rw [if_pos h3, if_pos h3]
    by_cases h4 : S.num (k + 4) ≠ 0
    · rw [if_pos h4, if_pos h4]
    · rw [if_neg h4, if_neg h4]
  · rw [if_neg h3, if_neg h3]
/-- What is told of a span's end. -/
def AtP (base rb : Nat) (bv : Value) (w : World) (k : Nat) (M : List Nd) (st : List Sp) (nv sv : Value) (r : EndR) (e : Ending) (w' : World) : Prop :=
  (match r with
    | .bad c => Pan w' k c e
    | .yes j => e = .returned (.bool true) ∧ PR base rb bv w' j M st nv sv
    | .no => e = .returned (.bool false) ∧ PR base rb bv w' k M st nv sv) ∧ Below base w w'
end Go.Proofs.YtfoodjhffehgpaaGreatDoor
end
