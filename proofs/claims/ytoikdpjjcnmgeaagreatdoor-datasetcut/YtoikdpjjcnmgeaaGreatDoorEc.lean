import Derived.Test.YtoikdpjjcnmgeaaGreatDoorProg
import Derived.WalkKit
import Derived.LaidEql
import Derived.Stop.Asserts
import Derived.RowKitTokens
import Derived.Test.YtoikdpjjcnmgeaaGreatDoorBa
import Derived.Deep.RegionLawGrows
import Derived.WideMake
import Derived.Test.YtoikdpjjcnmgeaaGreatDoorLa
import Derived.Deep.AppendLies
import Derived.Test.YtoikdpjjcnmgeaaGreatDoorRM
import Derived.Test.YtoikdpjjcnmgeaaGreatDoorBh
import Derived.Lib.QuietBelow
section
/-
  DERIVED. errors.As at a fault of our own.
-/
namespace Go.Proofs.YtoikdpjjcnmgeaaGreatDoor
open Go.RowKit Go.Extern.Stop Go.Stop Go.Extern

/-- errors.As(nil, target). -/
theorem as_nil (t : Value) (w : World) :
    Calls Tryz.prog 74 #[.nilIface, t] w fun e w' => e = .returned (.bool false) ∧ w' = w := by
  go_enter Tryz.func74, Tryz.ntmps74
  go_wp2
  go_ret
  exact ⟨rfl, rfl⟩

/-! ### CLOSED FACTS ON THE MODEL's ENTRIES FOR internal/reflectlite, at this program's types: 25: *p.E · 27: **p.E · 23: error · 45: reflectlite's rtype · 1: how many package-level variables the dump has -/
theorem As_valueOf27 (t : Addr) (w : World) : (ReflectliteValue.unpack (.iface 136 (.pointer (some t)))).run Tryz.prog w
    = .ok (.agg #[.pointer (some ⟨9, 136, none⟩), .pointer (some ⟨w.heap.size, 0, none⟩), .int .u64 150]) (w.alloc (.cells #[.pointer (some t)] 136)) := by kernel_rfl
theorem As_type27 (a : Addr) (w : World) : (ReflectliteValue.methodAny (ReflectliteValue.valueError "reflectlite.Value.Type" 0) (fun t _ _ _ => ReflectliteType.toType t) #[.agg #[.pointer (some ⟨9, 136, none⟩), .pointer (some a), .int .u64 150]]).run Tryz.prog w
    = .ok (.iface 202 (.agg #[.pointer (some ⟨9, 136, none⟩)])) w := by kernel_rfl
theorem As_methodKind (h : Value) (w : World) : (Go.method 414 202 (.agg #[h]) "Kind").run Tryz.prog w = .ok (255, h) w := by kernel_rfl
theorem As_kind27 (w : World) : ((ReflectliteType.abiMethod fun t => (fun a : Nat => Value.int IntKind.u8 (a : Int)) <$> Rtype.kind t) #[.pointer (some ⟨9, 136, none⟩)]).run Tryz.prog w = .ok (.int .u8 22) w := by kernel_rfl
theorem As_kind25 (w : World) : ((ReflectliteType.abiMethod fun t => (fun a : Nat => Value.int IntKind.u8 (a : Int)) <$> Rtype.kind t) #[.pointer (some ⟨9, 70, none⟩)]).run Tryz.prog w = .ok (.int .u8 22) w := by kernel_rfl

/-! ### THE ENTRIES THAT READ OR WRITE MEMORY: laws with a premise on the cell (after Derived/Lib/ReflectliteSlice.lean's manner: each unfolding a lemma of its own, by rfl) -/
theorem rlm (z : Sem Value) (f : TypeId → Addr → Nat → Nat → Sem Value) (v : Value) :
    ReflectliteValue.method z f #[v] = (do match ← ReflectliteValue.parts v with | none => z | some (t, a, fl) => f t a fl (fl % 32)) := rfl
theorem As_parts27 (a : Addr) (w : World) : (ReflectliteValue.parts (.agg #[.pointer (some ⟨9, 136, none⟩), .pointer (some a), .int .u64 150])).run Tryz.prog w = .ok (some (136, a, 150)) w := by kernel_rfl
/-- (Value).IsNil at the Value of a **p.E that is not nil. -/
theorem As_isNil27 (a p : Addr) (W : World) (ha : W.cell? a = some (.pointer (some p))) :
    (ReflectliteValue.method (ReflectliteValue.valueError "reflectlite.Value.IsNil" 0) ReflectliteValue.isNil #[.agg #[.pointer (some ⟨9, 136, none⟩), .pointer (some a), .int .u64 150]]).run Tryz.prog W = .ok (.bool false) W := by
  rw [rlm]
  simp only [Sem.run_bind, As_parts27, Result.andThen]
  simp [ReflectliteValue.isNil, loadVar, isAgg, underlying, Tryz.underlying136, ha, Result.andThen]

theorem As_methodElem (h : Value) (w : World) : (Go.method 414 202 (.agg #[h]) "Elem").run Tryz.prog w = .ok (281, .agg #[h]) w := by kernel_rfl
theorem As_methodImplements (h : Value) (w : World) : (Go.method 414 202 (.agg #[h]) "Implements").run Tryz.prog w = .ok (282, .agg #[h]) w := by kernel_rfl
theorem As_methodAssignableTo (h : Value) (w : World) : (Go.method 414 202 (.agg #[h]) "AssignableTo").run Tryz.prog w = .ok (279, .agg #[h]) w := by kernel_rfl
theorem As_elem27 (w : World) : (ReflectliteType.method ReflectliteType.elem #[.agg #[.pointer (some ⟨9, 136, none⟩)]]).run Tryz.prog w = .ok (.iface 202 (.agg #[.pointer (some ⟨9, 70, none⟩)])) w := by kernel_rfl
theorem As_implements25 (w : World) : (ReflectliteType.relation "Implements" ReflectliteType.implements_ #[.agg #[.pointer (some ⟨9, 70, none⟩)], .iface 202 (.agg #[.pointer (some ⟨9, 27, none⟩)])]).run Tryz.prog w = .ok (.bool true) w := by kernel_rfl
theorem As_typeOf25 (v : Value) (w : World) : (ReflectliteType.typeOf #[.iface 70 v]).run Tryz.prog w = .ok (.iface 202 (.agg #[.pointer (some ⟨9, 70, none⟩)])) w := by kernel_rfl
theorem As_assignable25 (w : World) : (ReflectliteType.relation "AssignableTo" ReflectliteType.assignableTo #[.agg #[.pointer (some ⟨9, 70, none⟩)], .iface 202 (.agg #[.pointer (some ⟨9, 70, none⟩)])]).run Tryz.prog w = .ok (.bool true) w := by kernel_rfl
theorem As_valueOf25 (e : Addr) (w : World) : (ReflectliteValue.unpack (.iface 70 (.pointer (some e)))).run Tryz.prog w
    = .ok (.agg #[.pointer (some ⟨9, 70, none⟩), .pointer (some ⟨w.heap.size, 0, none⟩), .int .u64 150]) (w.alloc (.cells #[.pointer (some e)] 70)) := by kernel_rfl

theorem As_elemOf27 (w : World) : (Rtype.elem? 136).run Tryz.prog w = .ok (some 70) w := by kernel_rfl
theorem As_mk25 (p : Addr) (w : World) : (ReflectliteValue.mk 70 p ReflectliteValue.flagAddr).run Tryz.prog w = .ok (.agg #[.pointer (some ⟨9, 70, none⟩), .pointer (some p), .int .u64 406]) w := by kernel_rfl
/-- (Value).Elem at the Value of a **p.E that is not nil: the Value of the *p.E variable that it points to, addressable. -/
theorem As_elemV27 (a p : Addr) (W : World) (ha : W.cell? a = some (.pointer (some p))) :
    (ReflectliteValue.method (ReflectliteValue.valueError "reflectlite.Value.Elem" 0) ReflectliteValue.elem #[.agg #[.pointer (some ⟨9, 136, none⟩), .pointer (some a), .int .u64 150]]).run Tryz.prog W
      = .ok (.agg #[.pointer (some ⟨9, 70, none⟩), .pointer (some p), .int .u64 406]) W := by
  rw [rlm]
  simp only [Sem.run_bind, As_parts27, Result.andThen]
  simp [ReflectliteValue.elem, loadVar, isAgg, underlying, Tryz.underlying136, ha, Result.andThen, As_elemOf27, As_mk25]
theorem rls (v x : Value) : ReflectliteValue.set #[v, x] = (do
    let (some (dst, a, fl), some (src, b, _)) := (← ReflectliteValue.parts v, ← ReflectliteValue.parts x)
      | unsupported (.noEntry "extern/(internal/reflectlite.Value).Set.zeroValue")
    if fl / ReflectliteValue.flagAddr % 2 == 0 then unsupported (.noEntry "extern/(internal/reflectlite.Value).Set.unaddressable")
    let val ← loadVar src b
    if ← Rtype.directlyAssignable dst src then storeVar dst a val
    else if ← Rtype.implements dst src then
      if (← Rtype.kind src) == 20 then
        match val with
        | .nilIface => unsupported (.noEntry "extern/reflectlite: a nil value of one interface type handed on as a value of another")
        | _ => storeVar dst a val
      else storeVar dst a (.iface src val)
    else panicString ("reflectlite.Set: value of type " ++ (← Rtype.spelt src) ++ " is not assignable to type " ++ (← Rtype.spelt dst))
    pure (.tuple #[])) := rfl
theorem As_parts25a (a : Addr) (w : World) : (ReflectliteValue.parts (.agg #[.pointer (some ⟨9, 70, none⟩), .pointer (some a), .int .u64 406])).run Tryz.prog w = .ok (some (70, a, 406)) w := by kernel_rfl
theorem As_parts25 (a : Addr) (w : World) : (ReflectliteValue.parts (.agg #[.pointer (some ⟨9, 70, none⟩), .pointer (some a), .int .u64 150])).run Tryz.prog w = .ok (some (70, a, 150)) w := by kernel_rfl
theorem As_direct25 (w : World) : (Rtype.directlyAssignable 70 70).run Tryz.prog w = .ok true w := by kernel_rfl
theorem As_size25 (w : World) : (sizeOf 70).run Tryz.prog w = .ok 1 w := by kernel_rfl
/-- (Value).Set: the *p.E variable at 'ta' gets what the Value's own variable 'b' holds. -/
theorem As_set25 (ta b e : Addr) (old : Value) (W : World) (hb : W.cell? b = some (.pointer (some e))) (ht : W.cell? ta = some old) (hf : W.frozen? ta = false) :
    (ReflectliteValue.set #[.agg #[.pointer (some ⟨9, 70, none⟩), .pointer (some ta), .int .u64 406], .agg #[.pointer (some ⟨9, 70, none⟩), .pointer (some b), .int .u64 150]]).run Tryz.prog W
      = .ok (.tuple #[]) (W.setCell ta (.pointer (some e))) := by
  rw [rls]
  simp only [Sem.run_bind, As_parts25a, As_parts25, Result.andThen]
  simp [ReflectliteValue.flagAddr, loadVar, isAgg, underlying, Tryz.underlying70, hb, Result.andThen, As_direct25, storeVar, Value.cells, storeCells, Addr.add]
  rw [run_store Tryz.prog W ta _ _ (by rfl)]
  simp [ht, hf]

set_option maxRecDepth 100000 in
set_option maxHeartbeats 4000000 in
theorem as_hit (e t : Addr) (old : Value) (w : World) (hg : w.cell? ⟨0, 0, none⟩ = some (.iface 202 (.agg #[.pointer (some ⟨9, 27, none⟩)]))) (ht0 : w.cell? t = some old) (hf0 : w.frozen? t = false) :
    Calls Tryz.prog 74 #[.iface 70 (.pointer (some e)), .iface 136 (.pointer (some t))] w fun ev w' => ev = .returned (.bool true) ∧ w' = ((((w.alloc (.cells #[.pointer (some t)] 136)).alloc (.cells #[.pointer (some ⟨9, 136, none⟩), .pointer (some ⟨w.heap.size, 0, none⟩), .int .u64 150] 175)).alloc (.cells #[.pointer (some ⟨9, 136, none⟩), .pointer (some ⟨w.heap.size, 0, none⟩), .int .u64 150] 175)).alloc (.cells #[.pointer (some e)] 70)).setCell t (.pointer (some e)) := by
  have h6 := @run_callFunc_extern Tryz.prog 112 _ (fun args => ReflectliteValue.unpack (args.getD 0 (.tuple #[]))) Tryz.func112 (by kernel_rfl) (by kernel_rfl) (by kernel_rfl) (by kernel_rfl)
  have h7 := @run_callFunc_extern Tryz.prog 113 _ (ReflectliteValue.methodAny (ReflectliteValue.valueError "reflectlite.Value.Type" 0) (fun t _ _ _ => ReflectliteType.toType t)) Tryz.func113 (by kernel_rfl) (by kernel_rfl) (by kernel_rfl) (by kernel_rfl)
  have h8 := @run_callFunc_extern Tryz.prog 114 _ (ReflectliteValue.method (ReflectliteValue.valueError "reflectlite.Value.IsNil" 0) ReflectliteValue.isNil) Tryz.func114 (by kernel_rfl) (by kernel_rfl) (by kernel_rfl) (by kernel_rfl)
  have h27 := @run_callFunc_extern Tryz.prog 255 _ (ReflectliteType.abiMethod fun t => do pure (.int .u8 (← Rtype.kind t))) Tryz.func255 (by kernel_rfl) (by kernel_rfl) (by kernel_rfl) (by kernel_rfl)
  have h37 := @run_callFunc_extern Tryz.prog 281 _ (ReflectliteType.method ReflectliteType.elem) Tryz.func281 (by kernel_rfl) (by kernel_rfl) (by kernel_rfl) (by kernel_rfl)
  have h38 := @run_callFunc_extern Tryz.prog 282 _ (ReflectliteType.relation "Implements" ReflectliteType.implements_) Tryz.func282 (by kernel_rfl) (by kernel_rfl) (by kernel_rfl) (by kernel_rfl)
  have h10 := @run_callFunc_extern Tryz.prog 130 _ ReflectliteType.typeOf Tryz.func130 (by kernel_rfl) (by kernel_rfl) (by kernel_rfl) (by kernel_rfl)
  have h35 := @run_callFunc_extern Tryz.prog 279 _ (ReflectliteType.relation "AssignableTo" ReflectliteType.assignableTo) Tryz.func279 (by kernel_rfl) (by kernel_rfl) (by kernel_rfl) (by kernel_rfl)
  have h11 := @run_callFunc_extern Tryz.prog 131 _ (ReflectliteValue.method (ReflectliteValue.valueError "reflectlite.Value.Elem" 0) ReflectliteValue.elem) Tryz.func131 (by kernel_rfl) (by kernel_rfl) (by kernel_rfl) (by kernel_rfl)
  have h12 := @run_callFunc_extern Tryz.prog 132 _ ReflectliteValue.set Tryz.func132 (by kernel_rfl) (by kernel_rfl) (by kernel_rfl) (by kernel_rfl)
  have tO := As_typeOf25
  have mA := As_methodAssignableTo
  have a25 := As_assignable25
  have v25 := As_valueOf25
  have f6 := As_valueOf27
  have f7 := As_type27
  have mK := As_methodKind
  have mE := As_methodElem
  have mI := As_methodImplements
  have k27 := As_kind27
  have k25 := As_kind25
  have e27 := As_elem27
  have i25 := As_implements25
  have n8 := As_isNil27 ⟨w.heap.size, 0, none⟩ t ((w.alloc (.cells #[.pointer (some t)] 136)).alloc (.cells #[.pointer (some ⟨9, 136, none⟩), .pointer (some ⟨w.heap.size, 0, none⟩), .int .u64 150] 175)) (by simp)
  have hlt : 0 < w.heap.size := by
    rcases Nat.eq_zero_or_pos w.heap.size with h0 | h
    · simp [World.cell?, h0] at hg
    · exact h
  have hg2 : ((w.alloc (.cells #[.pointer (some t)] 136)).alloc (.cells #[.pointer (some ⟨9, 136, none⟩), .pointer (some ⟨w.heap.size, 0, none⟩), .int .u64 150] 175)).cell? ⟨0, 0, none⟩ = some (.iface 202 (.agg #[.pointer (some ⟨9, 27, none⟩)])) := by
    rw [World.cell?_alloc_lt _ _ ⟨0, 0, none⟩ (by simp), World.cell?_alloc_lt _ _ ⟨0, 0, none⟩ hlt]; exact hg
  have htl : t.block < w.heap.size := by
    rcases Nat.lt_or_ge t.block w.heap.size with h | h
    · exact h
    · simp [World.cell?, Array.getElem?_eq_none h] at ht0
  have el := As_elemV27 ⟨w.heap.size, 0, none⟩ t (((w.alloc (.cells #[.pointer (some t)] 136)).alloc (.cells #[.pointer (some ⟨9, 136, none⟩), .pointer (some ⟨w.heap.size, 0, none⟩), .int .u64 150] 175)).alloc (.cells #[.pointer (some ⟨9, 136, none⟩), .pointer (some ⟨w.heap.size, 0, none⟩), .int .u64 150] 175)) (by rw [World.cell?_alloc_lt _ _ ⟨w.heap.size, 0, none⟩ (by simp; omega)]; simp)
  have st := As_set25 t ⟨w.heap.size + 1 + 1 + 1, 0, none⟩ e old ((((w.alloc (.cells #[.pointer (some t)] 136)).alloc (.cells #[.pointer (some ⟨9, 136, none⟩), .pointer (some ⟨w.heap.size, 0, none⟩), .int .u64 150] 175)).alloc (.cells #[.pointer (some ⟨9, 136, none⟩), .pointer (some ⟨w.heap.size, 0, none⟩), .int .u64 150] 175)).alloc (.cells #[.pointer (some e)] 70))
    (by rw [World.cell?_alloc_at _ _ _ _ (by simp)]; rfl)
    (by rw [World.cell?_alloc_lt _ _ t (by simp; omega), World.cell?_alloc_lt _ _ t (by simp; omega), World.cell?_alloc_lt _ _ t (by simp; omega), World.cell?_alloc_lt _ _ t htl]; exact ht0)
    (by rw [World.frozen?_alloc_old _ _ t (by simp; omega), World.frozen?_alloc_old _ _ t (by simp; omega), World.frozen?_alloc_old _ _ t (by simp; omega), World.frozen?_alloc_old _ _ t (Nat.ne_of_lt htl)]; exact hf0)
  go_enter Tryz.func74, Tryz.ntmps74
  go_wp2
  refine wp_loop_rounds 1 ?_
  rw [rounds_succ]
  go_wp2
  go_ret
  exact ⟨rfl, rfl⟩
end Go.Proofs.YtoikdpjjcnmgeaaGreatDoor
end

section
/-
  DERIVED. Errors in chains, told.
-/
namespace Go.Proofs.YtoikdpjjcnmgeaaGreatDoor
open Go Go.Proofs Go.RowKit

theorem infoLk : (Tryz.prog.info? 102).map (fun i => (i.zero, i.size, i.bytes)) = some (some (.agg #[.string { data := #[] }, .int .i64 0]), 2, 24) := by kernel_rfl
/-- A link: the layer, the place. -/
abbrev Lk := ByteArray × Int
def lkc (l : List Lk) : List Value := l.flatMap fun x => [.string x.1, .int .i64 x.2]
theorem lkc_len : ∀ l : List Lk, (lkc l).length = l.length * 2
  | [] => rfl
  | x :: r => by
    show ([Value.string x.1, .int .i64 x.2] ++ lkc r).length = _
    rw [List.length_append, lkc_len r]
    simp
    omega
theorem lkc_snoc (l : List Lk) (x : Lk) : lkc (l ++ [x]) = lkc l ++ [.string x.1, .int .i64 x.2] := by
  unfold lkc
  rw [List.flatMap_append]
  simp
theorem lkc_get : ∀ (l : List Lk) (i : Nat) (h : i < l.length), (lkc l)[i * 2]? = some (.string (l[i]'h).1) ∧ (lkc l)[i * 2 + 1]? = some (.int .i64 (l[i]'h).2)
  | x :: r, 0, h => ⟨rfl, rfl⟩
  | x :: r, i + 1, h => by
    have ih := lkc_get r i (by simpa using h)
    have e : lkc (x :: r) = [Value.string x.1, .int .i64 x.2] ++ lkc r := rfl
    rw [e]
    constructor
    · rw [List.getElem?_append_right (by simp; omega), show (i + 1) * 2 - [Value.string x.1, .int .i64 x.2].length = i * 2 by simp; omega]; exact ih.1
    · rw [List.getElem?_append_right (by simp; omega), show (i + 1) * 2 + 1 - [Value.string x.1, .int .i64 x.2].length = i * 2 + 1 by simp; omega]; exact ih.2
/-- Faults behind one another, a number at the end. -/
def Chain (w : World) : List Lk → Int → Value → Prop
  | [], c, v => v = .iface 69 (.int .i64 c)
  | x :: r, c, v => ∃ q u, v = .iface 70 (.pointer (some ⟨q, 0, none⟩)) ∧ w.cell? ⟨q, 0, none⟩ = some (.string x.1) ∧ w.cell? ⟨q, 1, none⟩ = some (.int .i64 x.2) ∧ w.cell? ⟨q, 2, none⟩ = some u ∧ Chain w r c u
theorem Chain.on {w w' : World} (hb : Below w.heap.size w w') : ∀ {l : List Lk} {c : Int} {v : Value}, Chain w l c v → Chain w' l c v
  | [], _, _, h => h
  | _ :: _, _, _, ⟨q, u, h1, h2, h3, h4, h5⟩ => ⟨q, u, h1, (hb.cell (Rp.cell_lt h2)).trans h2, (hb.cell (Rp.cell_lt h3)).trans h3, (hb.cell (Rp.cell_lt h4)).trans h4, Chain.on hb h5⟩
theorem Chain.low {w w' : World} {B : Nat} (hb : Below B w w') (hB : w.heap.size ≤ B) : ∀ {l : List Lk} {c : Int} {v : Value}, Chain w l c v → Chain w' l c v := Chain.on (hb.mono hB)

/-- While an error is told. -/
structure TI (w wr : World) (R F : Nat) (done : List Lk) : Prop where
  r0 : wr.cell? ⟨R, 0, none⟩ = some (.slice none 0 0)
  r1 : wr.cell? ⟨R, 1, none⟩ = some (.int .i64 0)
  rf : ∀ i, wr.frozen? ⟨R, i, none⟩ = false
  f : ∃ ao cp, wr.cell? ⟨F, 0, none⟩ = some (.slice ao done.length cp) ∧ wr.ownsRow (F + 1) 102 2 (.slice ao done.length cp) done.length (lkc done)
  f1 : wr.cell? ⟨F, 1, none⟩ = some (.int .i64 0)
  ff : ∀ i, wr.frozen? ⟨F, i, none⟩ = false
  be : Below w.heap.size w wr
  sz : F < wr.heap.size

theorem TI.next {w wr W4 : World} {R F : Nat} {done : List Lk} {v : Value} {x : Lk} {g4 c4 : Nat} {o : Obj} (h : TI w wr R F done) (hR : R = w.heap.size) (hF : F = R + 1) (hvb : ∀ k, v.ownBlock = some k → F + 1 ≤ k)
    (ho : W4.ownsRow (F + 1) 102 2 (.slice (some ⟨g4, 0, none⟩) (done.length + 1) c4) (done.length + 1) (lkc done ++ [.string x.1, .int .i64 x.2])) (hg : (wr.alloc o).grownBy W4 v.ownBlock) :
    (∀ k, k < F + 1 → W4.heap[k]? = wr.heap[k]?) ∧ TI w (W4.setCell ⟨F, 0, none⟩ (.slice (some ⟨g4, 0, none⟩) (done.length + 1) c4)) R F (done ++ [x]) := by
  have hsz := h.sz
  have hk : ∀ k, k < F + 1 → W4.heap[k]? = wr.heap[k]? := fun k hk => (hg.block k (by simp; omega) (fun e => by have := hvb k e.symm; omega)).trans (Below.heap_alloc wr _ k (by omega))
  refine ⟨hk, ?_⟩
  have cR : ∀ i, (W4.setCell ⟨F, 0, none⟩ (.slice (some ⟨g4, 0, none⟩) (done.length + 1) c4)).cell? ⟨R, i, none⟩ = wr.cell? ⟨R, i, none⟩ := fun i => (Rp.cell_set_off (by omega)).trans (World.cell?_of_block (hk R (by omega)))
  have cF : ∀ i, W4.cell? ⟨F, i, none⟩ = wr.cell? ⟨F, i, none⟩ := fun i => World.cell?_of_block (hk F (by omega))
  obtain ⟨ao, cp, f0, -⟩ := h.f
  have hgb := ho.lt g4 rfl
  refine ⟨(cR 0).trans h.r0, (cR 1).trans h.r1, fun i => ?_, ⟨some ⟨g4, 0, none⟩, c4, ?_, ?_⟩, (Rp.cell_set_ne (by decide)).trans ((cF 1).trans h.f1), fun i => ?_, ?_, ?_⟩
  · rw [World.frozen?_setCell]; exact (World.frozen?_of_block (a := ⟨R, i, none⟩) (hk R (by omega))).trans (h.rf i)
  · rw [List.length_append]; exact Rp.cell_set_eq ((cF 0).trans f0)
  · rw [List.length_append, lkc_snoc]
    refine ⟨ho.1, ?_⟩
    rcases ho.2 with ⟨hv, _⟩ | ⟨g, cap, cur, hv, hb, hh, r⟩
    · cases hv
    · cases hv
      exact .inr ⟨g4, c4, cur, rfl, hb, (Below.heap_setCell _ _ _ g4 (by show g4 ≠ F; omega)).trans hh, r⟩
  · rw [World.frozen?_setCell]; exact (World.frozen?_of_block (a := ⟨F, i, none⟩) (hk F (by omega))).trans (h.ff i)
  · have hb4 : Below w.heap.size w W4 := ⟨hg.os.trans h.be.os, hg.tape.trans h.be.tape, hg.output.trans h.be.output, by have := hg.size; have := h.be.size; simp at *; omega, fun k hk' => (hk k (by omega)).trans (h.be.block k hk')⟩
    exact hb4.setCell (p := ⟨F, 0, none⟩) (by show w.heap.size ≤ F; omega) _
  · have := hg.size
    simp at this ⊢
    omega

set_option maxRecDepth 100000 in
set_option maxHeartbeats 4000000 in
theorem told_any (w : World) (ls : List Lk) (c : Int) (v : Value) (h : Chain w ls c v) (hc : c ≠ 0) (h1 : 0 < ls.length) (h11 : ls.length ≤ 11) :
    Calls Tryz.prog 39 #[v] w fun e w' => ∃ g cap, e = .returned (.tuple #[.agg #[.slice (some ⟨g, 0, none⟩) ls.length cap, .int .i64 c], .bool true]) ∧ Hid (Below w.heap.size w w') ∧ Hid (w'.ownsRow w.heap.size 102 2 (.slice (some ⟨g, 0, none⟩) ls.length cap) ls.length (lkc ls)) := by
  have ta : ∀ (w : World) (v : Value), (Instr.typeAssert (.iface 70 v) 27 70 true).run Tryz.prog w = .ok (.tuple #[v, .bool true]) w := fun _ _ => by kernel_rfl
  have tb : ∀ (w : World) (v : Value), (Instr.typeAssert (.iface 69 v) 27 70 true).run Tryz.prog w = .ok (.tuple #[.pointer none, .bool false]) w := fun _ _ => by kernel_rfl
  have tc : ∀ (w : World) (v : Value), (Instr.typeAssert (.iface 69 v) 27 69 true).run Tryz.prog w = .ok (.tuple #[v, .bool true]) w := fun _ _ => by kernel_rfl
  obtain ⟨i0, hi, hz0, hz1, hz2⟩ := info_parts infoLk
  have HC : Hid (Chain w ls c v) := h
  have HL : Hid (0 < ls.length ∧ ls.length ≤ 11) := ⟨h1, h11⟩
  have hcb : (c != 0) = true := bne_iff_ne.2 hc
  clear h h1 h11 hc
  go_enter Tryz.func39, Tryz.ntmps39
  go_wp2
  obtain ⟨W1, hW1⟩ : ∃ W1, (w.alloc (.cells #[.slice none 0 0, .int .i64 0] 32)).alloc (.cells #[.slice none 0 0, .int .i64 0] 32) = W1 := ⟨_, rfl⟩
  have HT0 : Hid (TI w W1 w.heap.size (w.heap.size + 1) []) := by
    rw [← hW1]
    exact ⟨by simp, by simp, fun i => by simp, ⟨none, 0, by simp, World.ownsRow_nil _ _ _ _⟩, by simp, fun i => by simp, ((Below.refl _ _).alloc (Nat.le_refl _) _).alloc (by simp) _, by simp⟩
  rw [hW1]
  clear hW1
  go_loopw [0, 5] (fun x0 x5 wr => ∃ (i : Nat) (done rest : List Lk), x5 = .int .i64 (i : Int) ∧ i < 12 ∧ Hid (i = done.length ∧ done ++ rest = ls ∧ Chain w rest c x0 ∧ TI w wr w.heap.size (w.heap.size + 1) done)) (fun _ x5 _ => 20 - (intOf x5).toNat)
  case atStart => exact ⟨0, [], ls, rfl, by omega, rfl, rfl, HC.out, HT0.out⟩
  case round =>
    obtain ⟨i, done, rest, rfl, hi12, HH⟩ := hrel
    obtain ⟨hid, hdr, hch, hti⟩ := HH.out
    cases rest with
    | nil =>
      obtain rfl : u0 = .iface 69 (.int .i64 c) := hch
      have hls : done = ls := by simpa using hdr
      subst hls
      have HTI : Hid (TI w wr w.heap.size (w.heap.size + 1) done) := hti
      obtain ⟨ao, cp, f0, hown⟩ := hti.f
      obtain ⟨r0, r1, rf, -, f1, ff, -, hsz⟩ := hti
      have HO : Hid (wr.ownsRow (w.heap.size + 1 + 1) 102 2 (.slice ao done.length cp) done.length (lkc done)) := hown
      obtain ⟨g, rfl⟩ : ∃ g, ao = some ⟨g, 0, none⟩ := by
        rcases hown.2 with ⟨_, h0⟩ | ⟨g, cap, cur, hv, _⟩
        · have := HL.out.1; omega
        · cases hv; exact ⟨g, rfl⟩
      have hgb := (hown.lt g rfl).1
      have hl0 := HL.out.1
      obtain ⟨m, hm⟩ : ∃ m, done.length = m := ⟨_, rfl⟩
      have HM : Hid (done.length = m) := hm
      rw [hm] at f0 hl0
      clear hid hdr hown hm HH HC HT0 HL
      have hne : w.heap.size ≠ w.heap.size + 1 := by omega
      have hne' : w.heap.size + 1 ≠ w.heap.size := by omega
      have hm0 : (0 : Int) < (m : Int) := by omega
      go_wp2
      obtain ⟨U, hU⟩ : ∃ U, wr.setCell ⟨w.heap.size + 1, 1, none⟩ (.int .i64 c) = U := ⟨_, rfl⟩
      have u0 : U.cell? ⟨w.heap.size + 1, 0, none⟩ = some (.slice (some ⟨g, 0, none⟩) m cp) := by rw [← hU]; exact (Rp.cell_set_ne (by decide)).trans f0
      have u1 : U.cell? ⟨w.heap.size + 1, 1, none⟩ = some (.int .i64 c) := by rw [← hU]; exact Rp.cell_set_eq f1
      have v0 : U.cell? ⟨w.heap.size, 0, none⟩ = some (.slice none 0 0) := by rw [← hU]; exact (Rp.cell_set_off (by omega)).trans r0
      have v1 : U.cell? ⟨w.heap.size, 1, none⟩ = some (.int .i64 0) := by rw [← hU]; exact (Rp.cell_set_off (by omega)).trans r1
      have vf : ∀ j, U.frozen? ⟨w.heap.size, j, none⟩ = false := fun j => by rw [← hU, World.frozen?_setCell]; exact rf j
      have HBU : Hid (Below w.heap.size w U) := by rw [← hU]; exact HTI.out.be.setCell (p := ⟨w.heap.size + 1, 1, none⟩) (by simp) _
      have HOU : Hid (U.ownsRow w.heap.size 102 2 (.slice (some ⟨g, 0, none⟩) m cp) m (lkc done)) := by
        have h1 := HO.out
        rw [HM.out] at h1
        rw [← hU]
        refine ⟨h1.1, ?_⟩
        rcases h1.2 with ⟨hv, _⟩ | ⟨g', cap, cur, hv, hb, hh, r⟩
        · cases hv
        · cases hv
          exact .inr ⟨g, cp, cur, rfl, by omega, (Below.heap_setCell _ _ _ g (by show g ≠ w.heap.size + 1; omega)).trans hh, r⟩
      rw [hU]
      clear hU f0 f1 ff r0 r1 rf ta tb tc HTI HO
      go_region
      all_goals
        go_wp2
        refine bodyPost_ret (v := .tuple #[.agg #[.slice (some ⟨g, 0, none⟩) m cp, .int .i64 c], .bool true]) (by simp [results, Tryz.results39, go_sem, v0, v1]) rfl ?_
        rw [HM.out]
        refine ⟨g, cp, rfl, ((HBU.out.setCell (p := ⟨w.heap.size, 0, none⟩) (Nat.le_refl _) _).setCell (p := ⟨w.heap.size, 1, none⟩) (Nat.le_refl _) _).drew, ?_⟩
        have h1 := HOU.out
        refine ⟨h1.1, ?_⟩
        rcases h1.2 with ⟨hv, _⟩ | ⟨g', cap, cur, hv, hb, hh, r⟩
        · cases hv
        · cases hv
          exact .inr ⟨g, cp, cur, rfl, hb, (Below.heap_setCell _ _ _ g (by show g ≠ w.heap.size; omega)).trans ((Below.heap_setCell _ _ _ g (by show g ≠ w.heap.size; omega)).trans hh), r⟩
    | cons x r =>
      obtain ⟨q, u, rfl, g0, g1, g2, hch2⟩ := hch
      have HTI : Hid (TI w wr w.heap.size (w.heap.size + 1) done) := hti
      have HC2 : Hid (Chain w r c u) := hch2
      have HD : Hid (i = done.length ∧ done ++ x :: r = ls) := ⟨hid, hdr⟩
      have hq := Rp.cell_lt g0
      replace g0 := (hti.be.cell (p := ⟨q, 0, none⟩) hq).trans g0
      replace g1 := (hti.be.cell (p := ⟨q, 1, none⟩) hq).trans g1
      replace g2 := (hti.be.cell (p := ⟨q, 2, none⟩) hq).trans g2
      obtain ⟨ao, cp, f0, hown⟩ := hti.f
      have ff := hti.ff
      have hsz := hti.sz
      obtain ⟨m, hm⟩ : ∃ m, done.length = m := ⟨_, rfl⟩
      have HM : Hid (done.length = m) := hm
      rw [hm] at f0 hown
      have HO : Hid (wr.ownsRow (w.heap.size + 1 + 1) 102 2 (.slice ao m cp) m (lkc done)) := hown
      have hm12 : m ≤ 12 := by omega
      clear hid hdr hch2 hti hown hm HH HC HT0
      obtain ⟨x1, x2⟩ := x
      simp only at g0 g1
      go_wp2
      have hqF : q ≠ w.heap.size + 1 := by have : q < w.heap.size := hq; omega
      have H63 : m + 1 ≤ maxLen := by unfold maxLen; omega
      have HBY : (m + 1) * 24 ≤ 140737488355328 := by omega
      have HBS : ∀ o, w.heap.size + 1 + 1 ≤ (wr.alloc o).heap.size := fun o => by simp; omega
      have HNX := fun (W4 : World) (g4 c4 : Nat) (o : Obj) (ho : W4.ownsRow (w.heap.size + 1 + 1) 102 2 (.slice (some ⟨g4, 0, none⟩) (m + 1) c4) (m + 1) (lkc done ++ [.string x1, .int .i64 x2])) (hg : (wr.alloc o).drew.grownBy W4 (Value.slice ao m cp).ownBlock) => HTI.out.next (o := o) (v := Value.slice ao m cp) (x := (x1, x2)) rfl rfl (fun k hk => (HO.out.lt k hk).1) (by rw [HM.out]; exact ho) ⟨hg.os, hg.tape, hg.output, hg.size, hg.block⟩
      have HNXH : Hid _ := HNX
      clear HNX
      have H1C : ∀ u ∈ ([.string x1, .int .i64 x2] : List Value), u.oneCell' = true := by intro u hu; simp at hu; rcases hu with rfl | rfl <;> rfl
      have HNW : ∀ j u, ([.string x1, .int .i64 x2] : List Value)[j]? = some u → (wr.alloc (.cells #[.string x1, .int .i64 x2] 102)).drew.cell? ((⟨wr.heap.size, 0, none⟩ : Addr).add j) = some u := fun j u hu => World.news_of_block (Wk.heap_new wr (.cells #[.string x1, .int .i64 x2] 102)) j u hu
      have HOA : (wr.alloc (.cells #[.string x1, .int .i64 x2] 102)).drew.ownsRow (w.heap.size + 1 + 1) 102 2 (.slice ao m cp) m (lkc done) := World.ownsRow.alloc HO.out _
      have HBS1 : w.heap.size + 1 + 1 ≤ (wr.alloc (.cells #[.string x1, .int .i64 x2] 102)).drew.heap.size := HBS _
      have HK1 : Hid _ := H1C
      have HK2 : Hid _ := HNW
      have HK3 : Hid _ := HOA
      have HK4 : Hid _ := HBS1
      clear H1C HNW HOA HBS1 HBS
      go_region_law (go_loud (refine step_append_lies _ rfl (.tmp 30) (.tmp 40) 30 rfl (w.heap.size + 1 + 1) 102 i0 _ 2 24 Tryz.underlying30 hi hz0 hz1 hz2 rfl (by decide) (.slice ao m cp) m (lkc done) (by simp [Act.eval]) HK3.out ⟨wr.heap.size, 0, none⟩ 1 1 [.string x1, .int .i64 x2] (by simp [Act.eval]) rfl HK2.out HK1.out (by decide) H63 HBY HK4.out _ rfl ?_); intro g4 c4 W4 ho4 hg4 hd4 hl4; have hx4 := HNXH.out W4 g4 c4 _ ho4 hg4; have z0 := (World.cell?_of_block (a := ⟨w.heap.size + 1, 0, none⟩) (hx4.1 (w.heap.size + 1) (Nat.lt_succ_self _))).trans f0; have zf := fun j => (World.frozen?_of_block (a := ⟨w.heap.size + 1, j, none⟩) (hx4.1 (w.heap.size + 1) (Nat.lt_succ_self _))).trans (ff j))
      all_goals
        have y2 := (World.cell?_of_block (a := ⟨q, 2, none⟩) (hx4.1 q (by have : q < w.heap.size := hq; omega))).trans g2
        have HT4 : Hid _ := hx4.2
        clear hx4 ho4 hg4 hd4 hl4 zf z0 g0 g1 g2 f0 ff
        have hqF' : w.heap.size + 1 ≠ q := fun h => hqF h.symm
        go_wp2
        refine ⟨⟨i + 1, done ++ [(x1, x2)], r, by simp, ?_, ?_⟩, by simp [intOf]; omega⟩
        · have h1 := HD.out.1
          have h2 := congrArg List.length HD.out.2
          simp at h2
          have := HL.out.2
          omega
        · refine ⟨by rw [List.length_append, ← HD.out.1]; rfl, by rw [← HD.out.2]; simp, HC2.out, ?_⟩
          have := HT4.out
          rw [HM.out] at this
          exact this
end Go.Proofs.YtoikdpjjcnmgeaaGreatDoor
end

section
/-
  DERIVED. Faults in chains, held against each other.
-/
namespace Go.Proofs.YtoikdpjjcnmgeaaGreatDoor
open Go Go.Proofs Go.RowKit

structure StopI (p : Prop) : Prop where
  out : p
/-- Links lie there. -/
def LkAt (w : World) (g : Nat) (ls : List Lk) : Prop := ∀ i (h : i < ls.length), w.cell? ⟨g, i * 2, none⟩ = some (.string (ls[i]'h).1) ∧ w.cell? ⟨g, i * 2 + 1, none⟩ = some (.int .i64 (ls[i]'h).2)
theorem LkAt.on {w w' : World} {g : Nat} {ls : List Lk} (h : LkAt w g ls) (hb : Below w.heap.size w w') : LkAt w' g ls := fun i hi => ⟨(hb.cell (Rp.cell_lt (h i hi).1)).trans (h i hi).1, (hb.cell (Rp.cell_lt (h i hi).2)).trans (h i hi).2⟩
theorem lk_own {w : World} {base g n cap : Nat} {ls : List Lk} (h : w.ownsRow base 102 2 (.slice (some ⟨g, 0, none⟩) n cap) n (lkc ls)) (hn : n = ls.length) : LkAt w g ls := fun i hi => by
  have h1 := World.ownsRow.cellAt h
  exact ⟨(h1 (i * 2) (by omega)).trans (lkc_get ls i hi).1, (h1 (i * 2 + 1) (by omega)).trans (lkc_get ls i hi).2⟩

set_option maxRecDepth 100000 in
set_option maxHeartbeats 2000000 in
theorem same_chain (w : World) (ls : List Lk) (g h cg ch k : Nat) (c : Int) (hk : k = ls.length) (hs : k ≤ 100) (hg : LkAt w g ls) (hh : LkAt w h ls) :
    Calls Tryz.prog 40 #[.agg #[.slice (some ⟨g, 0, none⟩) k cg, .int .i64 c], .agg #[.slice (some ⟨h, 0, none⟩) k ch, .int .i64 c]] w fun e w' => e = .returned (.bool true) ∧ Hid (Below w.heap.size w w') := by
  have HG : Hid (LkAt w g ls) := hg
  have HH : Hid (LkAt w h ls) := hh
  have HK : Hid (k = ls.length) := hk
  clear hg hh hk
  obtain ⟨W1, hW1⟩ : ∃ W1, (w.alloc (.cells #[.slice (some ⟨g, 0, none⟩) k cg, .int .i64 c] 32)).alloc (.cells #[.slice (some ⟨h, 0, none⟩) k ch, .int .i64 c] 32) = W1 := ⟨_, rfl⟩
  have HB1 : Hid (Below w.heap.size w W1) := by rw [← hW1]; exact ((Below.refl _ _).alloc (Nat.le_refl _) _).alloc (by simp) _
  have a0 : W1.cell? ⟨w.heap.size, 0, none⟩ = some (.slice (some ⟨g, 0, none⟩) k cg) := by rw [← hW1]; simp
  have a1 : W1.cell? ⟨w.heap.size, 1, none⟩ = some (.int .i64 c) := by rw [← hW1]; simp
  have b0 : W1.cell? ⟨w.heap.size + 1, 0, none⟩ = some (.slice (some ⟨h, 0, none⟩) k ch) := by rw [← hW1]; simp
  have b1 : W1.cell? ⟨w.heap.size + 1, 1, none⟩ = some (.int .i64 c) := by rw [← hW1]; simp
  go_enter Tryz.func40, Tryz.ntmps40
  go_wp2
  clear hW1
  go_loopw [5] (fun x5 wr => ∃ i : Nat, x5 = .int .i64 (i : Int) ∧ i ≤ k ∧ ∃ m, wr = W1.drewN m) (fun x5 _ => 200 - (intOf x5).toNat)
  case atStart => exact ⟨0, rfl, by omega, 0, rfl⟩
  case round =>
    obtain ⟨i, rfl, hi, m, rfl⟩ := hrel
    by_cases hlt : i < k
    · have hltI : (i : Int) < (k : Int) := by omega
      have hil : i < ls.length := by rw [← HK.out]; exact hlt
      obtain ⟨x0, x1⟩ := HG.out.on HB1.out i hil
      obtain ⟨y0, y1⟩ := HH.out.on HB1.out i hil
      generalize ls[i]'hil = q at x0 x1 y0 y1
      go_wp2
      go_quiet (fail)
      go_wp2
      go_roundw
      case rel => exact ⟨i + 1, by go_num, by omega, _, rfl⟩
      case measure => simp [intOf]; omega
    · have hltI : ¬ (i : Int) < (k : Int) := by omega
      go_wp2
      go_ret
      exact ⟨rfl, Wk.below_drw HB1.out _⟩

set_option maxRecDepth 100000 in
set_option maxHeartbeats 2000000 in
theorem is_chain (w : World) (ls : List Lk) (c : Int) (v : Value) (g cg k : Nat) (h : Chain w ls c v) (hc : c ≠ 0) (hk : k = ls.length) (h1 : 0 < k) (h11 : k ≤ 11) (hg : LkAt w g ls) :
    Calls Tryz.prog 12 #[v, .agg #[.slice (some ⟨g, 0, none⟩) k cg, .int .i64 c]] w fun e w' => e = .returned (.bool true) ∧ Below w.heap.size w w' := by
  obtain ⟨W1, hW1⟩ : ∃ W1, w.alloc (.cells #[.slice (some ⟨g, 0, none⟩) k cg, .int .i64 c] 32) = W1 := ⟨_, rfl⟩
  have hb1 : Below w.heap.size w W1 := hW1 ▸ (Below.refl _ _).alloc (Nat.le_refl _) _
  have hs1 : w.heap.size < W1.heap.size := by rw [← hW1]; simp
  have a0 : W1.cell? ⟨w.heap.size, 0, none⟩ = some (.slice (some ⟨g, 0, none⟩) k cg) := by rw [← hW1]; simp
  have a1 : W1.cell? ⟨w.heap.size, 1, none⟩ = some (.int .i64 c) := by rw [← hW1]; simp
  have ht := told_any W1 ls c v (h.on hb1) hc (by omega) (by omega)
  rw [← hk] at ht
  have HG1 : Hid (LkAt W1 g ls) := hg.on hb1
  have HB1 : Hid (Below w.heap.size w W1) := hb1
  have HK : Hid (k = ls.length) := hk
  clear h hg hk hb1 hc
  go_enter Tryz.func12, Tryz.ntmps12
  go_wp2_with (go_at_call 39; refine StopI.out ?_)
  refine ⟨Calls.mono ht ?_⟩
  rintro e W2 ⟨g4, cap4, rfl, hb2, ho2⟩
  have e0 := (hb2.out.cell (p := ⟨w.heap.size, 0, none⟩) hs1).trans a0
  have e1 := (hb2.out.cell (p := ⟨w.heap.size, 1, none⟩) hs1).trans a1
  have hs2 : w.heap.size < W2.heap.size := Nat.lt_of_lt_of_le hs1 hb2.out.size
  have HG2 : Hid (LkAt W2 g ls) := HG1.out.on hb2.out
  have HL2 : Hid (LkAt W2 g4 ls) := lk_own ho2.out HK.out
  have HB2 : Hid (Below w.heap.size w W2) := HB1.out.trans (hb2.out.mono HB1.out.size)
  clear ht hb2 ho2 a0 a1 hW1
  have hb3 : Below W2.heap.size W2 (W2.alloc (.cells #[.slice (some ⟨g4, 0, none⟩) k cap4, .int .i64 c] 32)) := (Below.refl _ _).alloc (Nat.le_refl _) _
  have c27 := same_chain (W2.alloc (.cells #[.slice (some ⟨g4, 0, none⟩) k cap4, .int .i64 c] 32)) ls g g4 cg cap4 k c HK.out (by omega) (HG2.out.on hb3) (HL2.out.on hb3)
  go_wp2_with (go_at_call 40; refine StopI.out ?_)
  refine ⟨Calls.mono c27 ?_⟩
  rintro e W3 ⟨rfl, hb4⟩
  go_wp2
  go_ret
  exact ⟨rfl, HB2.out.trans ((hb3.trans (hb4.out.mono hb3.size)).mono HB2.out.size)⟩
end Go.Proofs.YtoikdpjjcnmgeaaGreatDoor
end

section
/-
  DERIVED. The layer's refusal with a number.
-/
namespace Go.Proofs.YtoikdpjjcnmgeaaGreatDoor
open Go Go.Proofs Go.RowKit

def dsB : ByteArray := { data := #[100, 97, 116, 97, 115, 101, 116] }
def dcB : ByteArray := { data := #[100, 105, 99, 116] }
set_option maxRecDepth 100000 in
theorem refuseD_any (w : World) (a c : Int) : Calls Tryz.prog 31 #[.int .i64 a, .iface 69 (.int .i64 c)] w fun e w' => ∃ q, e = .returned (.iface 70 (.pointer (some ⟨q, 0, none⟩))) ∧ Hid (Chain w' [(dsB, a)] c (.iface 70 (.pointer (some ⟨q, 0, none⟩)))) ∧ Hid (Below w.heap.size w w') := by
  go_enter Tryz.func31, Tryz.ntmps31
  go_wp2
  go_ret
  exact ⟨_, rfl, ⟨w.heap.size, _, rfl, by simp [dsB], by simp, by simp, rfl⟩, (Below.refl _ _).alloc (Nat.le_refl _) _⟩
end Go.Proofs.YtoikdpjjcnmgeaaGreatDoor
end

section
/-
  DERIVED. Which node may be an item: the document's look.
-/
namespace Go.Proofs.YtoikdpjjcnmgeaaGreatDoor
open Go Go.Proofs Go.RowKit
open Wk (Nd)

set_option maxRecDepth 100000 in
set_option maxHeartbeats 1000000 in
theorem ritem_any (w : World) (a : Nd) (d : Nat) (hd : d ≤ 1000) : Calls Tryz.prog 124 #[.agg #[.int .u32 a.t, .int .i64 a.v, .int .i64 a.n, .string a.s], .int .i64 (d : Int)] w fun e w' => e = .returned (.bool (itemOk a && decide (d ≤ 4))) ∧ Below w.heap.size w w' := by
  obtain ⟨R, hR⟩ : ∃ R, (itemOk a && decide (d ≤ 4)) = R := ⟨_, rfl⟩
  rw [hR]
  unfold itemOk at hR
  have HR : Hid _ := hR
  clear hR
  obtain ⟨t, v, n, s⟩ := a
  simp only at *
  by_cases h1 : t = 4294893568
  · subst h1
    by_cases h2 : v = 29
    · subst h2
      obtain ⟨z, hz⟩ : ∃ z, (s.toList == []) = z := ⟨_, rfl⟩
      cases z with
      | true =>
        by_cases h3 : 0 ≤ n
        · have HR2 : Hid (R = decide ((d : Int) ≤ 4)) := by
            have := HR.out
            rw [hz] at this
            simp [h3] at this
            show R = _
            rw [← this]
            by_cases hd4 : d ≤ 4
            · rw [show decide (d ≤ 4) = true by simpa using hd4]; symm; simp; omega
            · rw [show decide (d ≤ 4) = false by simpa using hd4]; symm; simp; omega
          go_enter Tryz.func124, Tryz.ntmps124
          go_wp2
          go_ret
          exact ⟨by rw [HR2.out]; rfl, (Below.refl _ _).alloc (Nat.le_refl _) _⟩
        · have HR2 : Hid (R = false) := by
            have := HR.out
            rw [hz] at this
            simp [h3] at this
            exact this
          go_enter Tryz.func124, Tryz.ntmps124
          go_wp2
          go_ret
          exact ⟨by rw [HR2.out]; rfl, (Below.refl _ _).alloc (Nat.le_refl _) _⟩
      | false =>
        have HR2 : Hid (R = false) := by
          have := HR.out
          rw [hz] at this
          simp at this
          exact this
        go_enter Tryz.func124, Tryz.ntmps124
        go_wp2
        go_ret
        exact ⟨by rw [HR2.out]; rfl, (Below.refl _ _).alloc (Nat.le_refl _) _⟩
    · have b2 : (v == 29) = false := beq_eq_false_iff_ne.2 h2
      have HR2 : Hid (R = false) := by
        have := HR.out
        simp [h2] at this
        exact this
      go_enter Tryz.func124, Tryz.ntmps124
      go_wp2
      go_ret
      exact ⟨by rw [HR2.out]; rfl, (Below.refl _ _).alloc (Nat.le_refl _) _⟩
  · have b1 : (t == 4294893568) = false := beq_eq_false_iff_ne.2 h1
    have HR2 : Hid (R = false) := by
      have := HR.out
      simp [h1] at this
      exact this
    go_enter Tryz.func124, Tryz.ntmps124
    go_wp2
    go_ret
    exact ⟨by rw [HR2.out]; rfl, (Below.refl _ _).alloc (Nat.le_refl _) _⟩
end Go.Proofs.YtoikdpjjcnmgeaaGreatDoor
end

section
/-
  DERIVED. Which node may stand where the levels are: the program's look.
-/
namespace Go.Proofs.YtoikdpjjcnmgeaaGreatDoor
open Go Go.Proofs Go.RowKit Go.Sort
open Wk (Nd)

theorem hmix : Tryz.prog.follows .mixedOrders = true := by kernel_rfl
/-- A goal that no look goes into. -/
structure ShutQ (p : Prop) : Prop where
  out : p
theorem sq_skip {P : Program} {ops : Array Oper} {C : World → Prop} {Q : Act → Prop} {a : Act} {o : Oper} {rest : List Oper} (hwant : Region.wanted o (yielded ops a.tmps) = false) (h : ShutQ (wpQuiet P ops C Q rest (a.put o.dst undef))) : ShutQ (wpQuiet P ops C Q (o :: rest) a) := by
  refine ⟨?_⟩
  unfold wpQuiet
  rw [if_neg (by simp [hwant])]
  exact h.out
theorem sq_move {P : Program} {ops : Array Oper} {C : World → Prop} {Q : Act → Prop} {a : Act} {o : Oper} {rest : List Oper} (x : Operand) (ho : o.op = .move x) (hwant : Region.wanted o (yielded ops a.tmps) = true) (h : ShutQ (wpQuiet P ops C Q rest (a.put o.dst (a.eval x)))) : ShutQ (wpQuiet P ops C Q (o :: rest) a) := by
  refine ⟨?_⟩
  unfold wpQuiet
  rw [if_pos hwant]
  refine ⟨a.eval x, fun w hw => ?_, h.out⟩
  unfold Oper.quietAt execOp
  simp only [ho, Sem.run_pure]
  exact ⟨rfl, rfl⟩
theorem sq_pick {P : Program} {ops : Array Oper} {C : World → Prop} {Q : Act → Prop} {a : Act} {o : Oper} {rest : List Oper} (c x y : Operand) (b : Bool) (ho : o.op = .pick c x y) (hc : a.eval c = .bool b) (hwant : Region.wanted o (yielded ops a.tmps) = true) (h : ShutQ (wpQuiet P ops C Q rest (a.put o.dst (if b = true then a.eval x else a.eval y)))) : ShutQ (wpQuiet P ops C Q (o :: rest) a) := by
  refine ⟨?_⟩
  unfold wpQuiet
  rw [if_pos hwant]
  refine ⟨_, fun w hw => ?_, h.out⟩
  unfold Oper.quietAt execOp
  simp only [ho, hc, asBool, Sem.run_bind, Sem.run_pure, Result.andThen_ok]
  exact ⟨rfl, rfl⟩

set_option maxRecDepth 100000 in
set_option maxHeartbeats 2000000 in
theorem isRight_item (w : World) (a : Nd) (g k c : Nat) (hk : k < 100) (he : (k + 1) % 2 = 0) :
    Calls Tryz.prog 50 #[.agg #[.int .u32 a.t, .int .i64 a.v, .int .i64 a.n, .string a.s], .slice (some ⟨g, 0, none⟩) (k + 1) c] w fun e w' => e = .returned (.bool (itemOk a && decide ((k + 1) / 2 ≤ 4))) ∧ Below w.heap.size w w' := by
  have c21 := fun W => wants_any W (some ⟨g, 0, none⟩) (k + 1) c true (by simp [he])
  have c22 := fun W => isItem_any W a
  obtain ⟨R, hR⟩ : ∃ R, (itemOk a && decide ((k + 1) / 2 ≤ 4)) = R := ⟨_, rfl⟩
  rw [hR]
  have HR : Hid _ := hR
  clear hR
  generalize itemOk a = z at c22 HR
  obtain ⟨t, v, n, s⟩ := a
  simp only at *
  obtain ⟨W1, hW1⟩ : ∃ W1, w.alloc (.cells #[.int .u32 t, .int .i64 v, .int .i64 n, .string s] 54) = W1 := ⟨_, rfl⟩
  have HN1 : Hid (NC W1 w.heap.size t v n s) := by rw [← hW1]; exact ⟨by simp, by simp, by simp, by simp⟩
  have HB1 : Hid (Below w.heap.size w W1) := by rw [← hW1]; exact (Below.refl _ _).alloc (Nat.le_refl _) _
  obtain ⟨y0, y1, y2, y3⟩ := HN1.out
  have HQ : Hid (decide ((k + 1) / 2 ≤ 4) = decide (((k : Int) + 1) / 2 ≤ 4)) := by
    show _ = _
    by_cases h : (k + 1) / 2 ≤ 4
    · rw [show decide ((k + 1) / 2 ≤ 4) = true by simpa using h]; symm; simp; omega
    · rw [show decide ((k + 1) / 2 ≤ 4) = false by simpa using h]; symm; simp; omega
  clear he
  cases z with
  | false =>
    have HR2 : Hid (R = false) := HR.out.symm
    go_enter Tryz.func50, Tryz.ntmps50
    go_wp2_with (first | (go_at_call 82; refine (c21 _).mono ?_; rintro e W2 ⟨rfl, rfl⟩) | (go_at_call 83; refine (c22 _).mono ?_; rintro e W2 ⟨rfl, hb2⟩))
    go_ret
    exact ⟨by rw [HR2.out]; rfl, HB1.out.trans (hb2.mono HB1.out.size)⟩
  | true =>
    have HR2 : Hid (R = decide (((k : Int) + 1) / 2 ≤ 4)) := by rw [← HQ.out]; exact HR.out.symm
    go_enter Tryz.func50, Tryz.ntmps50
    go_wp2_with (first | (go_at_call 82; refine (c21 _).mono ?_; rintro e W2 ⟨rfl, rfl⟩) | (go_at_call 83; refine (c22 _).mono ?_; rintro e W2 ⟨rfl, hb2⟩))
    go_ret
    exact ⟨by rw [HR2.out]; rfl, HB1.out.trans (hb2.mono HB1.out.size)⟩

set_option maxRecDepth 100000 in
set_option maxHeartbeats 2000000 in
theorem isRight_elem (w : World) (a : Nd) (h0 : 0 ≤ a.t) (h1 : a.t < 4294967296) (g k c : Nat) (hk : k < 100) (he : (k + 1) % 2 = 1) (last : Int) (hl : w.cell? ⟨g, k * 2 + 1, none⟩ = some (.int .u32 last)) :
    Calls Tryz.prog 50 #[.agg #[.int .u32 a.t, .int .i64 a.v, .int .i64 a.n, .string a.s], .slice (some ⟨g, 0, none⟩) (k + 1) c] w fun e w' => e = .returned (.bool (elemOk a && decide (last < a.t))) ∧ Below w.heap.size w w' := by
  have c21 := fun W => wants_any W (some ⟨g, 0, none⟩) (k + 1) c false (by simp; omega)
  have c23 := fun W => isElement_any W a h0 h1
  obtain ⟨R, hR⟩ : ∃ R, (elemOk a && decide (last < a.t)) = R := ⟨_, rfl⟩
  rw [hR]
  have HR : Hid _ := hR
  clear hR
  generalize elemOk a = z at c23 HR
  obtain ⟨t, v, n, s⟩ := a
  simp only at *
  obtain ⟨W1, hW1⟩ : ∃ W1, w.alloc (.cells #[.int .u32 t, .int .i64 v, .int .i64 n, .string s] 54) = W1 := ⟨_, rfl⟩
  have HN1 : Hid (NC W1 w.heap.size t v n s) := by rw [← hW1]; exact ⟨by simp, by simp, by simp, by simp⟩
  have HB1 : Hid (Below w.heap.size w W1) := by rw [← hW1]; exact (Below.refl _ _).alloc (Nat.le_refl _) _
  obtain ⟨y0, y1, y2, y3⟩ := HN1.out
  have hl1 := (HB1.out.cell (p := ⟨g, k * 2 + 1, none⟩) (Tb.cell_lt hl)).trans hl
  have hs1 : w.heap.size ≤ W1.heap.size := HB1.out.size
  clear he hl
  have k0 := fun d os => cell_regrown y0 d os
  have k1 := fun d os => cell_regrown y1 d os
  have k2 := fun d os => cell_regrown y2 d os
  have k3 := fun d os => cell_regrown y3 d os
  have k4 := fun d os => cell_regrown hl1 d os
  have cM : ∀ d os, Calls Tryz.prog 84 #[.agg #[.int .u32 t, .int .i64 v, .int .i64 n, .string s]] (grow (redrawn W1 d) os) fun x w'' => x = .returned (.bool z) ∧ ∃ p : Regrown, w'' = grow (redrawn W1 p.d) p.os := fun d os => Calls.regrown_of (c23 _)
  clear c23
  have hwr : IntKind.i64.wrap (k : Int) = (k : Int) := by rw [IntKind.wrap_i64]; omega
  have hki : (k : Int) < (k : Int) + 1 := by omega
  cases z with
  | true =>
    have HR2 : Hid (R = decide (last < t)) := HR.out.symm
    go_enter Tryz.func50, Tryz.ntmps50
    go_wp2_with (first | (go_at_call 82; refine (c21 _).mono ?_; rintro e W2 ⟨rfl, rfl⟩) | fail)
    refine wp_region_quiet_below hmix (by kernel_rfl) ?_
    repeat (quiet_step (first | exact cM _ _))
    refine wpQuiet_nil ?_
    intro _ hw'
    obtain ⟨⟨dq, osq⟩, hw''⟩ := hw'
    subst hw''
    have hBW := below_regrown W1 dq osq
    have HB : Hid (Below w.heap.size w (grow (redrawn W1 dq) osq)) := HB1.out.trans (hBW.mono hs1)
    clear cM hBW k0 k1 k2 k3 k4
    go_wp2
    go_ret
    exact ⟨by rw [HR2.out]; rfl, HB.out⟩
  | false =>
    have HR2 : Hid (R = false) := HR.out.symm
    go_enter Tryz.func50, Tryz.ntmps50
    go_wp2_with (first | (go_at_call 82; refine (c21 _).mono ?_; rintro e W2 ⟨rfl, rfl⟩) | fail)
    refine wp_region_quiet_below hmix (by kernel_rfl) ?_
    iterate 2 (quiet_step (first | exact cM _ _))
    refine ShutQ.out ?_
    refine sq_move (.tmp 16) rfl (by kernel_rfl) ?_
    iterate 10 (refine sq_skip (by kernel_rfl) ?_)
    refine sq_pick (.tmp 17) (.tmp 27) (.const (.bool false)) false rfl (by kernel_rfl) (by kernel_rfl) ?_
    refine ⟨?_⟩
    quiet_step (fail)
    refine wpQuiet_nil ?_
    intro _ hw'
    obtain ⟨⟨dq, osq⟩, hw''⟩ := hw'
    subst hw''
    have hBW := below_regrown W1 dq osq
    have HB : Hid (Below w.heap.size w (grow (redrawn W1 dq) osq)) := HB1.out.trans (hBW.mono hs1)
    clear cM hBW k0 k1 k2 k3 k4
    try go_simp
    go_wp2
    go_ret
    exact ⟨by rw [HR2.out]; rfl, HB.out⟩
end Go.Proofs.YtoikdpjjcnmgeaaGreatDoor
end
