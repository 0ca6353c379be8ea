import Derived.Test.YtdggplhkeekdjaaGreatDoorNh
import Derived.Test.YtdggplhkeekdjaaGreatDoorProg
import Derived.RangeFuncNested
import Derived.RangeFuncBound
import Derived.RangeFuncCalls
import Derived.RangeFuncLeaves
import Derived.RangeFuncFrom
import Derived.WalkKit
import Derived.OwnWalkIn
import Derived.TacticsInMore
import Derived.LoopNIn
import Derived.LoopIn
import Derived.Shelf.Abstract
/-
  DERIVED. The program's wrongSetting.
-/
namespace Go.Proofs.YtdggplhkeekdjaaGreatDoor.Ck
open Go Go.Proofs Go.RowKit

/-- A configuration, as it lies in memory. -/
structure CfAt (X : World) (b : Nat) (t c : ByteArray) (ao : Option Addr) (n cp : Nat) (bo : Option Addr) (m dp : Nat) (mo ar : Int) : Prop where
  c0 : X.cell? ⟨b, 0, none⟩ = some (.string t)
  c1 : X.cell? ⟨b, 1, none⟩ = some (.string c)
  c2 : X.cell? ⟨b, 2, none⟩ = some (.slice ao n cp)
  c3 : X.cell? ⟨b, 3, none⟩ = some (.slice bo m dp)
  c4 : X.cell? ⟨b, 4, none⟩ = some (.int .u32 mo)
  c5 : X.cell? ⟨b, 5, none⟩ = some (.int .i64 ar)
theorem CfAt.on {X Y : World} {b : Nat} {t c : ByteArray} {ao bo : Option Addr} {n cp m dp : Nat} {mo ar : Int} (h : CfAt X b t c ao n cp bo m dp mo ar) (hb : Below X.heap.size X Y) : CfAt Y b t c ao n cp bo m dp mo ar :=
  ⟨(hb.cell (clt h.c0)).trans h.c0, (hb.cell (clt h.c1)).trans h.c1, (hb.cell (clt h.c2)).trans h.c2, (hb.cell (clt h.c3)).trans h.c3, (hb.cell (clt h.c4)).trans h.c4, (hb.cell (clt h.c5)).trans h.c5⟩
/-- The first field that may not be. -/
def wsO (a1 a2 a3 a4 : Bool) (mo ar : Int) : Option Int :=
  if a1 = false then some 0 else if a2 = false then some 1 else if a3 = false then some 2 else if a4 = false then some 3 else if mo ≠ 0 ∧ mo < 64 then some 4 else if ar < 1 ∨ 1000 < ar then some 5 else none
def wsV : Option Int → Value
  | some k => .tuple #[.int .i64 k, .bool true]
  | none => .tuple #[.int .i64 0, .bool false]
set_option maxRecDepth 100000 in
set_option maxHeartbeats 8000000 in
theorem wrongSetting_core (w : World) (t c : ByteArray) (ao bo : Option Addr) (n cp m dp : Nat) (mo ar : Int) (a1 a2 a3 a4 : Bool)
    (x1 : ∀ W, Below w.heap.size w W → Calls Tryz.prog 34 #[.string t] W fun e w' => e = .returned (.bool a1) ∧ Below W.heap.size W w')
    (x2 : ∀ W, Below w.heap.size w W → Calls Tryz.prog 34 #[.string c] W fun e w' => e = .returned (.bool a2) ∧ Below W.heap.size W w')
    (x3 : ∀ W, Below w.heap.size w W → Calls Tryz.prog 35 #[.slice ao n cp] W fun e w' => e = .returned (.bool a3) ∧ Below W.heap.size W w')
    (x4 : ∀ W, Below w.heap.size w W → Calls Tryz.prog 36 #[.slice bo m dp] W fun e w' => e = .returned (.bool a4) ∧ Below W.heap.size W w') : Calls Tryz.prog 16 #[.agg #[.string t, .string c, .slice ao n cp, .slice bo m dp, .int .u32 mo, .int .i64 ar]] w fun e w' => e = .returned (wsV (wsO a1 a2 a3 a4 mo ar)) ∧ Below w.heap.size w w' := by
  have HB0 : Hid (Below w.heap.size w (w.alloc (.cells #[.string t, .string c, .slice ao n cp, .slice bo m dp, .int .u32 mo, .int .i64 ar] 26))) := (Below.refl _ _).alloc (Nat.le_refl _) _
  have HC0 : Hid (CfAt (w.alloc (.cells #[.string t, .string c, .slice ao n cp, .slice bo m dp, .int .u32 mo, .int .i64 ar] 26)) w.heap.size t c ao n cp bo m dp mo ar) := ⟨by simp, by simp, by simp, by simp, by simp, by simp⟩
  obtain ⟨R, hR⟩ : ∃ R, wsO a1 a2 a3 a4 mo ar = R := ⟨_, rfl⟩
  have HR : Hid (wsO a1 a2 a3 a4 mo ar = R) := hR
  rw [hR]
  clear hR
  unfold wsO at HR
  go_enter Tryz.func16, Tryz.ntmps16
  go_wp2_with (go_at_call 34; refine Stop.mk ?_)
  refine Stop.out ((x1 _ HB0.out).mono ?_)
  rintro e W1 ⟨rfl, hb1⟩
  have HB1 : Hid (Below w.heap.size w W1) := HB0.out.trans (hb1.mono HB0.out.size)
  have HC1 : Hid (CfAt W1 w.heap.size t c ao n cp bo m dp mo ar) := HC0.out.on hb1
  obtain ⟨y10, y11, y12, y13, y14, y15⟩ := HC1.out
  clear hb1 HB0 HC0
  by_cases h1 : a1 = false
  · subst h1
    obtain rfl : R = some 0 := by have := HR.out; rw [if_pos rfl] at this; exact this.symm
    go_wp2
    exact bodyPost_ret (v := .tuple #[.int .i64 0, .bool true]) (by simp [results, Tryz.results16, go_sem]) rfl ⟨rfl, HB1.out⟩
  have g1 : a1 = true := by cases a1; exact absurd rfl h1; rfl
  subst g1
  clear h1
  rw [if_neg (by decide)] at HR
  go_wp2_with (go_at_call 34; refine Stop.mk ?_)
  refine Stop.out ((x2 _ HB1.out).mono ?_)
  rintro e W2 ⟨rfl, hb2⟩
  have HB2 : Hid (Below w.heap.size w W2) := HB1.out.trans (hb2.mono HB1.out.size)
  have HC2 : Hid (CfAt W2 w.heap.size t c ao n cp bo m dp mo ar) := HC1.out.on hb2
  obtain ⟨y20, y21, y22, y23, y24, y25⟩ := HC2.out
  clear hb2 HB1 HC1
  by_cases h2 : a2 = false
  · subst h2
    obtain rfl : R = some 1 := by have := HR.out; rw [if_pos rfl] at this; exact this.symm
    go_wp2
    exact bodyPost_ret (v := .tuple #[.int .i64 1, .bool true]) (by simp [results, Tryz.results16, go_sem]) rfl ⟨rfl, HB2.out⟩
  have g2 : a2 = true := by cases a2; exact absurd rfl h2; rfl
  subst g2
  clear h2
  rw [if_neg (by decide)] at HR
  go_wp2_with (go_at_call 35; refine Stop.mk ?_)
  refine Stop.out ((x3 _ HB2.out).mono ?_)
  rintro e W3 ⟨rfl, hb3⟩
  have HB3 : Hid (Below w.heap.size w W3) := HB2.out.trans (hb3.mono HB2.out.size)
  have HC3 : Hid (CfAt W3 w.heap.size t c ao n cp bo m dp mo ar) := HC2.out.on hb3
  obtain ⟨y30, y31, y32, y33, y34, y35⟩ := HC3.out
  clear hb3 HB2 HC2
  by_cases h3 : a3 = false
  · subst h3
    obtain rfl : R = some 2 := by have := HR.out; rw [if_pos rfl] at this; exact this.symm
    go_wp2
    exact bodyPost_ret (v := .tuple #[.int .i64 2, .bool true]) (by simp [results, Tryz.results16, go_sem]) rfl ⟨rfl, HB3.out⟩
  have g3 : a3 = true := by cases a3; exact absurd rfl h3; rfl
  subst g3
  clear h3
  rw [if_neg (by decide)] at HR
  go_wp2_with (go_at_call 36; refine Stop.mk ?_)
  refine Stop.out ((x4 _ HB3.out).mono ?_)
  rintro e W4 ⟨rfl, hb4⟩
  have HB4 : Hid (Below w.heap.size w W4) := HB3.out.trans (hb4.mono HB3.out.size)
  have HC4 : Hid (CfAt W4 w.heap.size t c ao n cp bo m dp mo ar) := HC3.out.on hb4
  obtain ⟨y40, y41, y42, y43, y44, y45⟩ := HC4.out
  clear hb4 HB3 HC3
  by_cases h4 : a4 = false
  · subst h4
    obtain rfl : R = some 3 := by have := HR.out; rw [if_pos rfl] at this; exact this.symm
    go_wp2
    exact bodyPost_ret (v := .tuple #[.int .i64 3, .bool true]) (by simp [results, Tryz.results16, go_sem]) rfl ⟨rfl, HB4.out⟩
  have g4 : a4 = true := by cases a4; exact absurd rfl h4; rfl
  subst g4
  clear h4
  rw [if_neg (by decide)] at HR
  by_cases k0 : mo = 0
  · have e0 : (mo != 0) = false := by rw [k0]; rfl
    rw [if_neg (fun x => x.1 k0)] at HR
    clear k0
    by_cases k1 : ar < 1
    · obtain rfl : R = some 5 := by have := HR.out; rw [if_pos (.inl k1)] at this; exact this.symm
      go_wp2
      exact bodyPost_ret (v := .tuple #[.int .i64 5, .bool true]) (by simp [results, Tryz.results16, go_sem]) rfl ⟨rfl, HB4.out⟩
    by_cases k2 : 1000 < ar
    · have e2 : ar > 1000 := k2
      obtain rfl : R = some 5 := by have := HR.out; rw [if_pos (.inr k2)] at this; exact this.symm
      go_wp2
      exact bodyPost_ret (v := .tuple #[.int .i64 5, .bool true]) (by simp [results, Tryz.results16, go_sem]) rfl ⟨rfl, HB4.out⟩
    have e2 : ¬ (ar > 1000) := k2
    obtain rfl : R = none := by have := HR.out; rw [if_neg (by omega)] at this; exact this.symm
    go_wp2
    exact bodyPost_ret (v := .tuple #[.int .i64 0, .bool false]) (by simp [results, Tryz.results16, go_sem]) rfl ⟨rfl, HB4.out⟩
  have e0 : (mo != 0) = true := by simpa using k0
  by_cases k3 : mo < 64
  · obtain rfl : R = some 4 := by have := HR.out; rw [if_pos ⟨k0, k3⟩] at this; exact this.symm
    clear k0
    go_wp2
    exact bodyPost_ret (v := .tuple #[.int .i64 4, .bool true]) (by simp [results, Tryz.results16, go_sem]) rfl ⟨rfl, HB4.out⟩
  rw [if_neg (fun x => k3 x.2)] at HR
  clear k0
  by_cases k1 : ar < 1
  · obtain rfl : R = some 5 := by have := HR.out; rw [if_pos (.inl k1)] at this; exact this.symm
    go_wp2
    exact bodyPost_ret (v := .tuple #[.int .i64 5, .bool true]) (by simp [results, Tryz.results16, go_sem]) rfl ⟨rfl, HB4.out⟩
  by_cases k2 : 1000 < ar
  · have e2 : ar > 1000 := k2
    obtain rfl : R = some 5 := by have := HR.out; rw [if_pos (.inr k2)] at this; exact this.symm
    go_wp2
    exact bodyPost_ret (v := .tuple #[.int .i64 5, .bool true]) (by simp [results, Tryz.results16, go_sem]) rfl ⟨rfl, HB4.out⟩
  have e2 : ¬ (ar > 1000) := k2
  obtain rfl : R = none := by have := HR.out; rw [if_neg (by omega)] at this; exact this.symm
  go_wp2
  exact bodyPost_ret (v := .tuple #[.int .i64 0, .bool false]) (by simp [results, Tryz.results16, go_sem]) rfl ⟨rfl, HB4.out⟩
end Go.Proofs.YtdggplhkeekdjaaGreatDoor.Ck

namespace Go.Proofs.YtdggplhkeekdjaaGreatDoor.Nv
open Go Go.Proofs Go.RowKit

theorem grownBy_of_below {W W' : World} (h : Below W.heap.size W W') : W.grownBy W' none := ⟨h.os, h.tape, h.output, h.size, fun k hk _ => h.block k hk⟩

theorem below_of_grownBy {W W' : World} (h : W.grownBy W' none) : Below W.heap.size W W' := ⟨h.os, h.tape, h.output, h.size, fun k hk => h.block k hk (by simp)⟩

/-- A range over a function whose iterator never calls yield. -/
theorem wpIn_rangeFunc_never {F : Fence} {n : Nat} {P : Program} {g : Operand} {ps : Array Tmp} {assign body : Code} {Q : Exit → Act → World → Prop} {a : Act} {w : World}
    (hro : F.round = none) (h1 : 1 ≤ n) {gf : Nat} {lb : Array Value} (hg : a.eval g = .func (.func gf) #[] lb) (hFg : F.fn gf) (eg : ∀ args w, (callFunc gf args).run P w = .ok (.enter gf args) w)
    (hc : ∀ l W, Below w.heap.size w W → CallsIn F (n - 1) P gf (#[.func (.yield l) #[] #[]] ++ lb) W fun e W' => (∃ v, e = .returned v) ∧ Below W.heap.size W W')
    (hdone : ∀ D W, Below w.heap.size w W → w.heap.size ≤ D → W.heap[D]? = some (.deferred (some [])) → Q .normal { a with defers := { target := .collected D, args := #[] } :: a.defers } W) :
    (Code.rangeFunc g ps assign body).wpIn F n P Q a w := by
  refine wpIn_rangeFunc_ownF (α := Empty) hro h1 hg hFg eg (encs := fun x => Empty.elim x) (Kp := fun _ _ => True) (S := fun _ => True) (Sp := fun _ => False) (N := 0) (w0 := w) ?_ (fun _ _ => trivial) (fun _ _ _ _ _ _ _ _ => trivial) (Below.refl _ _) (fun x => Empty.elim x)
    (fun _ W => Below w.heap.size w W) (fun _ _ _ => False) ?_ (fun _ _ _ _ _ h _ _ => h) (Below.refl _ _) (fun x => Empty.elim x) (fun _ x => Empty.elim x) (fun _ _ x => Empty.elim x) ?_ ?_
  · intro l J Jx W hW hJ hJx _ h0
    refine (hc l W hW).mono ?_
    rintro e W' ⟨hv, hb⟩
    exact ⟨hv, .inl ⟨[], trivial, hJ [] W W' none h0 (grownBy_of_below hb) (fun r e => by cases e)⟩⟩
  · intro s W W' row hs hg hr
    exact hs.grown hg hs.size (fun k e => (hr k e).1)
  · intro D xs W hD _ hW hK
    exact hdone D W hW hD hK
  · intro D c pre W _ h
    exact h.elim

end Go.Proofs.YtdggplhkeekdjaaGreatDoor.Nv

/-
  DERIVED. The sorted keys of a map that holds nothing.
-/
namespace Go.Proofs.YtdggplhkeekdjaaGreatDoor.Nv
open Go Go.Proofs Go.RowKit Go.Shelf
attribute [local go_sem] Oper.semAt_some

theorem run_next_empty (w : World) (ty : TypeId) (m : Nat) (hm : w.heap[m]? = some (.map #[] 0)) :
    (Instr.next (.pointer (some ⟨w.heap.size, 0, none⟩)) false ty).run Tryz.prog (w.alloc (.mapIter (some m) 0 #[] 0)) = .ok (.tuple #[.bool false]) (w.alloc (.mapIter (some m) 0 #[] 0)) := by
  rcases run_next_map (P := Tryz.prog) w ty m 0 0 #[] #[] 0 hm (by simp) (Nat.le_refl _) with ⟨_, h⟩ | ⟨e, he, _⟩
  · exact h
  · simp [leftOf] at he
set_option maxHeartbeats 400000 in
theorem insertion_nil (w : World) : Calls Tryz.prog 64 #[.slice none 0 0, .int .i64 0, .int .i64 0] w fun e w' => (∃ v, e = .returned v) ∧ w = w' := by
  go_enter Tryz.func64, Tryz.ntmps64
  go_wp2
  refine wp_loop_rounds 1 ?_
  rw [rounds_succ]
  go_wp2
  refine bodyPost_end (results_none rfl _ _ _) rfl ?_
  exact ⟨⟨_, rfl⟩, rfl⟩
set_option maxHeartbeats 400000 in
theorem pdq_nil (k : Int) (w : World) : Calls Tryz.prog 47 #[.slice none 0 0, .int .i64 0, .int .i64 0, .int .i64 k] w fun e w' => (∃ v, e = .returned v) ∧ w = w' := by
  go_enter Tryz.func47, Tryz.ntmps47
  go_wp2
  refine wp_loop_rounds 1 ?_
  rw [rounds_succ]
  go_wp2_with (go_at_call 64; refine (insertion_nil _).mono ?_; rintro e w' ⟨⟨v, rfl⟩, rfl⟩)
  refine bodyPost_ret (results_none rfl _ _ _) rfl ?_
  exact ⟨⟨_, rfl⟩, rfl⟩
set_option maxRecDepth 100000 in
set_option maxHeartbeats 400000 in
theorem sort_nil (w : World) : Calls Tryz.prog 32 #[.slice none 0 0] w fun e w' => (∃ v, e = .returned v) ∧ w = w' := by
  go_enter Tryz.func32, Tryz.ntmps32
  go_wp2_with (first | (go_at_call 47; refine (pdq_nil _ _).mono ?_; rintro e w' ⟨⟨v, rfl⟩, rfl⟩) | go_in)
  refine bodyPost_end (results_none rfl _ _ _) rfl ?_
  exact ⟨⟨_, rfl⟩, rfl⟩
theorem below_putObj {n D : Nat} {W : World} (h : n ≤ D) (o : Obj) : Below n W (W.putObj D o) :=
  ⟨rfl, rfl, rfl, by simp, fun k hk => World.putObj_heap_other (by omega)⟩
/-- slices.AppendSeq to nil over an iterator that yields nothing. -/
theorem appendSeq_none (gf : Nat) (lb : Array Value) (w : World) (eg : ∀ args w, (callFunc gf args).run Tryz.prog w = .ok (.enter gf args) w)
    (hc : ∀ l W, Below w.heap.size w W → Calls Tryz.prog gf (#[.func (.yield l) #[] #[]] ++ lb) W fun e W' => (∃ v, e = .returned v) ∧ Below W.heap.size W W') :
    Calls Tryz.prog 46 #[.slice none 0 0, .func (.func gf) #[] lb] w fun e w' => e = .returned (.slice none 0 0) ∧ Below w.heap.size w w' := by
  refine (callsIn_wide (n := 3)).1 ?_
  refine callsIn_of_wp_marks Tryz.func46 rfl trivial ?_ rfl
  simp only [Tryz.ntmps46, List.size_toArray, List.length_cons, List.length_nil, Nat.reduceAdd, Nat.reduceSub, Array.replicate_succ, Array.replicate_zero, List.push_toArray, List.append_toArray, List.nil_append, List.cons_append]
  gi_wp2
  have hbx : Below w.heap.size w (w.alloc (.cells #[.slice none 0 0] 33)) := (Below.refl _ _).alloc (Nat.le_refl _) _
  refine wpIn_rangeFunc_never rfl (by decide) (gf := gf) (lb := lb) rfl trivial eg (fun l W hW => callsIn_wide.2 (hc l W (hbx.trans (hW.mono (by simp))))) ?_
  intro D W hW hD hK
  have hc2 : W.cell? ⟨w.heap.size, 0, none⟩ = some (.slice none 0 0) := (hW.cell (p := ⟨w.heap.size, 0, none⟩) (by simp)).trans (by simp)
  gi_wp2
  refine ⟨by simp, .inl ⟨_, _, rfl, run_takeDeferred hK, ?_⟩⟩
  exact ⟨_, results_tmp rfl _ _ _, rfl, (hbx.trans (hW.mono (by simp))).trans (below_putObj (by simp at hD; omega) _)⟩
/-- slices.Sorted over an iterator that yields nothing. -/
theorem sorted_none (gf : Nat) (lb : Array Value) (w : World) (eg : ∀ args w, (callFunc gf args).run Tryz.prog w = .ok (.enter gf args) w)
    (hc : ∀ l W, Below w.heap.size w W → Calls Tryz.prog gf (#[.func (.yield l) #[] #[]] ++ lb) W fun e W' => (∃ v, e = .returned v) ∧ Below W.heap.size W W') :
    Calls Tryz.prog 14 #[.func (.func gf) #[] lb] w fun e w' => e = .returned (.slice none 0 0) ∧ Below w.heap.size w w' := by
  go_enter Tryz.func14, Tryz.ntmps14
  go_wp2_with (first | (go_at_call 46; refine (appendSeq_none gf lb w eg hc).mono ?_; rintro e W1 ⟨rfl, hb1⟩) | (go_at_call 32; refine (sort_nil _).mono ?_; rintro e W1 ⟨⟨v, rfl⟩, rfl⟩) | go_in)
  go_ret
  exact ⟨rfl, hb1⟩
set_option maxHeartbeats 400000 in
theorem keysF_any (m : Option Nat) (w : World) : Calls Tryz.prog 15 #[.map m] w fun e w' => e = .returned (.func (.func 33) #[] #[.pointer (some ⟨w.heap.size, 0, none⟩)]) ∧ w.alloc (.cells #[.map m] 56) = w' := by
  go_enter Tryz.func15, Tryz.ntmps15
  go_wp2
  go_ret
  exact ⟨rfl, rfl⟩
set_option maxRecDepth 100000 in
set_option maxHeartbeats 400000 in
theorem keysF1_empty (l B m : Nat) (w : World) (h : w.cell? ⟨B, 0, none⟩ = some (.map (some m))) (hm : w.heap[m]? = some (.map #[] 0)) : Calls Tryz.prog 33 #[.func (.yield l) #[] #[], .pointer (some ⟨B, 0, none⟩)] w fun e w' => (∃ v, e = .returned v) ∧ Below w.heap.size w w' := by
  have hr := run_range_map (P := Tryz.prog) w 56 52 68 m #[] 0 Tryz.underlying56 hm
  have hx := fun (ty : TypeId) => run_next_empty w ty m hm
  clear hm
  go_enter Tryz.func33, Tryz.ntmps33
  go_wp2
  refine wp_loop_rounds 1 ?_
  rw [rounds_succ]
  go_wp2
  refine bodyPost_end (results_none rfl _ _ _) rfl ?_
  exact ⟨⟨_, rfl⟩, (Below.refl _ _).alloc (Nat.le_refl _) _⟩
theorem enters33 : ∀ args w, (callFunc 33 args).run Tryz.prog w = .ok (.enter 33 args) w := enters_of Tryz.func33 (by kernel_rfl) rfl
theorem lt_cell {w : World} {a : Addr} {v : Value} (h : w.cell? a = some v) : a.block < w.heap.size := by
  unfold World.cell? at h
  cases hb : w.heap[a.block]? with
  | none => rw [hb] at h; cases h
  | some o => exact (Array.getElem?_eq_some_iff.1 hb).1
/-- What State asks of the keys. -/
theorem keys_sorted (w : World) (B m : Nat) (h : w.cell? ⟨B, 0, none⟩ = some (.map (some m))) (hm : w.heap[m]? = some (.map #[] 0)) : Calls Tryz.prog 14 #[.func (.func 33) #[] #[.pointer (some ⟨B, 0, none⟩)]] w fun e w' => e = .returned (.slice none 0 0) ∧ Below w.heap.size w w' :=
  sorted_none 33 #[.pointer (some ⟨B, 0, none⟩)] w enters33 fun l W hW => keysF1_empty l B m W ((hW.cell (p := ⟨B, 0, none⟩) (lt_cell h)).trans h) ((hW.block m (Array.getElem?_eq_some_iff.1 hm).1).trans hm)
end Go.Proofs.YtdggplhkeekdjaaGreatDoor.Nv
