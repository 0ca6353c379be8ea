import Derived.RangeFuncNested
import Derived.RangeFuncLeaves
import Derived.WalkKit
import Derived.RangeFuncBound
import Derived.RangeFuncCalls
import Derived.Shelf.Abstract
import Derived.Shelf.RegionOpen
import Derived.OwnWalkIn
import Derived.TacticsInMore
import Derived.LoopNIn
import Derived.LoopIn
import Derived.Test.YtfoodjhffehgpaaGreatDoorProg
section
/-
  DERIVED. A range over a function that itself ranges over functions: what its iterator promises, and what the loop may lean on.
-/
namespace Go.Proofs.YtfoodjhffehgpaaGreatDoor.Tb
open Go Go.RowKit

/-- All cells but one block's are kept. -/
structure KC (B : Nat) (W W' : World) : Prop where
  size : W.heap.size ≤ W'.heap.size
  same : ∀ (k : Nat) (o : Obj), W.heap[k]? = some o → o.isCells = true → k ≠ B → W'.heap[k]? = some o
theorem KC.trans {B : Nat} {X Y Z : World} (h : KC B X Y) (k : KC B Y Z) : KC B X Z := ⟨Nat.le_trans h.size k.size, fun i o hi hc hB => k.same i o (h.same i o hi hc hB) hc hB⟩
theorem KC.refl (B : Nat) (W : World) : KC B W W := ⟨Nat.le_refl _, fun _ _ h _ _ => h⟩
theorem KC.put {B l : Nat} {W : World} {o : Obj} (o' : Obj) (h : W.heap[l]? = some o) (hc : o.isCells = false) : KC B W (W.putObj l o') := by
  refine ⟨by simp, fun k x hk hx _ => ?_⟩
  have hne : k ≠ l := by
    rintro rfl
    rw [hk] at h
    cases h
    rw [hx] at hc
    cases hc
  exact (World.putObj_heap_other hne).trans hk
theorem keeps_put {s l : Nat} {W : World} (o' : Obj) (h : l < s) : KeepsFrom s W (W.putObj l o') :=
  ⟨by simp, fun k x hk hx _ => (World.putObj_heap_other (by omega)).trans hx⟩

/-- From block s on all lies as it lay. -/
def Stay (s : Nat) (V V' : World) : Prop := V.heap.size ≤ V'.heap.size ∧ ∀ k, s ≤ k → k < V.heap.size → V'.heap[k]? = V.heap[k]?
theorem Stay.refl (s : Nat) (V : World) : Stay s V V := ⟨Nat.le_refl _, fun _ _ _ => rfl⟩
theorem Stay.trans {s : Nat} {A B C : World} (h : Stay s A B) (k : Stay s B C) : Stay s A C :=
  ⟨Nat.le_trans h.1 k.1, fun i h1 h2 => (k.2 i h1 (Nat.lt_of_lt_of_le h2 h.1)).trans (h.2 i h1 h2)⟩
theorem Stay.of_below {s : Nat} {V V' : World} (h : Below V.heap.size V V') : Stay s V V' := ⟨h.size, fun k _ hk => h.block k hk⟩
theorem Stay.put {s l : Nat} {W : World} (o' : Obj) (h : l < s) : Stay s W (W.putObj l o') := ⟨by simp, fun k hk _ => World.putObj_heap_other (by omega)⟩
theorem Stay.keeps {s : Nat} {V V' : World} (h : Stay s V V') : KeepsFrom s V V' := ⟨h.1, fun k _ hk ho _ => (h.2 k hk (Array.getElem?_eq_some_iff.1 ho).1).trans ho⟩
theorem Stay.up {s s' : Nat} {V V' : World} (h : Stay s V V') (hs : s ≤ s') : Stay s' V V' := ⟨h.1, fun k hk hl => h.2 k (by omega) hl⟩

/-- What an iterator promises: it tells L, or a beginning of it if a round leaves; what the rounds promise it. -/
def Tells {α : Type} (P : Program) (gf : Nat) (lb : Array Value) (encs : α → Array Value) (B : Nat) (L : List α) (w : World) : Prop :=
  ∀ (l : Nat) (J Jx : List α → World → Prop) (W : World), Below w.heap.size w W → OwnFrom W.heap.size J → OwnFrom W.heap.size Jx →
    (∀ pre x W1, J pre W1 → pre.length < L.length → YieldAt Fence.wide 0 P l (encs x) W1 fun e W' =>
      (e = .returned (.bool true) ∧ J (pre ++ [x]) W' ∧ KC B W1 W' ∧ KeepsFrom W.heap.size W1 W') ∨ (e = .returned (.bool false) ∧ Jx (pre ++ [x]) W' ∧ Stay W.heap.size W1 W')) →
    J [] W →
    CallsIn Fence.wide 0 P gf (#[.func (.yield l) #[] #[]] ++ lb) W fun e W' => (∃ v, e = .returned v) ∧ (J L W' ∨ ∃ pre, pre <+: L ∧ Jx pre W')

/-- How a round may end. -/
def Ends {α : Type} (s B : Nat) (I : List α → World → Prop) (Ix : Code → List α → World → Prop) (xs : List α) (W : World) : Exit → Act → World → Prop
  | .normal, _, W' => KeepsFrom s W W' ∧ KC B W W' ∧ I xs W'
  | .ret, _, W' => Stay s W W' ∧ Ix .ret xs W'
  | .exit id, _, W' => Stay s W W' ∧ Ix (.exit id) xs W'
  | .goto t, _, W' => Stay s W W' ∧ Ix (.goto t) xs W'
  | .panic _, _, _ => False
  | .outgrown, _, _ => False

/-- The loop over such an iterator. -/
theorem loop_tells {α : Type} {P : Program} {n : Nat} {g : Operand} {ps : Array Tmp} {assign body : Code} {Q : Exit → Act → World → Prop} {a : Act} {w : World}
    {gf : Nat} {lb : Array Value} (hg : a.eval g = .func (.func gf) #[] lb) (eg : ∀ args w, (callFunc gf args).run P w = .ok (.enter gf args) w)
    {encs : α → Array Value} {B : Nat} {L : List α} (hseq : Tells P gf lb encs B L w) (hps : ∀ x, (encs x).size = ps.size)
    (I : List α → World → Prop) (Ix : Code → List α → World → Prop) (hI : OwnFrom w.heap.size I) (hIx : ∀ c, OwnFrom w.heap.size (Ix c)) (h0 : I [] w)
    (Ax : α → Act → World → Prop) (hAx : ∀ x a', OwnFrom w.heap.size (fun (_ : Unit) W => Ax x a' W))
    (hassign : ∀ (l : Nat) (pre : List α) (x : α) (W : World) (K : Act → World → Prop), I pre W → (∀ a' W', Stay w.heap.size W W' → KC B W W' → I pre W' → Ax x a' W' → K a' W') →
      assign.wpIn (Fence.wide.inRound l) 0 P (Exit.then K (fun _ _ _ => False)) { tmps := (ps.zip (encs x)).foldl (fun t (p, v) => t.setIfInBounds p v) a.tmps, defers := [] } W)
    (hbody : ∀ (l : Nat) (pre : List α) (x : α) (a' : Act) (W : World), I pre W → Ax x a' W → pre.length < L.length → body.wpIn (Fence.wide.inRound l) 0 P (Ends w.heap.size B I Ix (pre ++ [x]) W) a' W)
    (hdone : ∀ (D : Nat) (W : World), w.heap.size ≤ D → I L W → W.heap[D]? = some (.deferred (some [])) → Q .normal { a with defers := { target := .collected D, args := #[] } :: a.defers } W)
    (hstop : ∀ (D : Nat) (c : Code) (pre : List α) (W : World), w.heap.size ≤ D → pre <+: L → Ix c pre W → W.heap[D]? = some (.deferred (some [])) → c.wpIn Fence.wide n P Q { a with defers := { target := .collected D, args := #[] } :: a.defers } W) :
    (Code.rangeFunc g ps assign body).wpIn Fence.wide n P Q a w := by
  refine wpIn_rangeFunc fun fn _ => ?_
  let rc : LoopState → Option Code → Loop := fun st pe => { state := st, pending := pe, fn := fn, tmps := a.tmps, params := ps, assign := assign, body := body, defers := w.heap.size }
  let D := w.heap.size
  let R := w.heap.size + 1
  let W1 := (w.alloc (.deferred (some []))).alloc (.loop (rc .ready none))
  have sz1 : W1.heap.size = w.heap.size + 2 := by simp [W1]
  have atR : W1.heap[R]? = some (.loop (rc .ready none)) := by
    have := World.alloc_heap_new (w.alloc (.deferred (some []))) (.loop (rc .ready none))
    rwa [World.size_alloc] at this
  have atD : W1.heap[D]? = some (.deferred (some [])) := (Below.heap_alloc _ _ _ (by simp [D])).trans (World.alloc_heap_new w _)
  have bel1 : Below w.heap.size w W1 := ((Below.refl _ w).alloc (Nat.le_refl _) _).alloc (by simp) _
  refine ⟨R, [{ target := .collected D, args := #[] }], W1, { target := .fn (.func gf) lb, args := #[.func (.yield R) #[] #[]] }, W1, gf, #[.func (.yield R) #[] #[]] ++ lb, W1,
    run_enterLoop_outer _ _ _ _ _, by simp only [resolve, hg]; simp [go_sem], fun _ _ => trivial, by simp [invoke, go_sem, eg], fun h => (by cases h), ?_⟩
  -- the two blocks of the loop's own stand beside what the caller says
  let J : List α → World → Prop := fun pre W => I pre W ∧ W.heap[R]? = some (.loop (rc .ready none)) ∧ W.heap[D]? = some (.deferred (some []))
  let Jx : List α → World → Prop := fun pre W => ∃ c, Ix c pre W ∧ W.heap[R]? = some (.loop (rc .done (some c))) ∧ W.heap[D]? = some (.deferred (some []))
  have late : ∀ {A A' : World} {row : Option Nat}, A.grownBy A' row → (∀ r, row = some r → W1.heap.size ≤ r ∧ ∃ o : Obj, A.heap[r]? = some o ∧ o.isCells = false) → ∀ k o, k < w.heap.size + 2 → A.heap[k]? = some o → A'.heap[k]? = some o := by
    intro A A' row hgr hr k o hk hA
    refine (hgr.block k (Array.getElem?_eq_some_iff.1 hA).1 fun e => ?_).trans hA
    have := (hr k e.symm).1
    omega
  have early : ∀ {A : World} {row : Option Nat}, (∀ r, row = some r → W1.heap.size ≤ r ∧ ∃ o : Obj, A.heap[r]? = some o ∧ o.isCells = false) → ∀ r, row = some r → w.heap.size ≤ r ∧ ∃ o : Obj, A.heap[r]? = some o ∧ o.isCells = false :=
    fun h r e => ⟨by have := (h r e).1; omega, (h r e).2⟩
  have oJ : OwnFrom W1.heap.size J := fun s A A' row hs hgr hr =>
    ⟨hI s A A' row hs.1 hgr (early hr), late hgr hr R _ (by simp [R]) hs.2.1, late hgr hr D _ (by simp [D]) hs.2.2⟩
  have oJx : OwnFrom W1.heap.size Jx := fun s A A' row hs hgr hr => by
    obtain ⟨c, h1, h2, h3⟩ := hs
    exact ⟨c, hIx c s A A' row h1 hgr (early hr), late hgr hr R _ (by simp [R]) h2, late hgr hr D _ (by simp [D]) h3⟩
  have round : ∀ pre x V, J pre V → pre.length < L.length → YieldAt Fence.wide 0 P R (encs x) V fun e W' =>
      (e = .returned (.bool true) ∧ J (pre ++ [x]) W' ∧ KC B V W' ∧ KeepsFrom W1.heap.size V W') ∨ (e = .returned (.bool false) ∧ Jx (pre ++ [x]) W' ∧ Stay W1.heap.size V W') := by
    rintro pre x V ⟨iV, rV, dV⟩ hlen
    refine ⟨fn, _, assign, body, run_yield (P := P) (args := encs x) rV (hps x), roundIn_of_wpIn trivial (hassign R pre x V _ iV ?_)⟩
    intro a' Y sY cY iY aY
    have kY := sY.keeps
    have rY : Y.heap[R]? = some (.loop (rc .ready none)) := kY.same _ _ (by simp [R]) rV rfl
    have dY : Y.heap[D]? = some (.deferred (some [])) := kY.same _ _ (Nat.le_refl _) dV rfl
    refine ⟨_, run_beginRound rY rfl, ?_⟩
    let busy : Obj := .loop { rc .ready none with state := .busy }
    have rZ : (Y.putObj R busy).heap[R]? = some busy := World.putObj_heap_same (Array.getElem?_eq_some_iff.1 rY).1
    have dZ : (Y.putObj R busy).heap[D]? = some (.deferred (some [])) := (World.putObj_heap_other (by simp [R, D])).trans dY
    refine wpIn_mono (hbody R pre x a' (Y.putObj R busy) (hI.putObj _ iY (by simp [R]) rY rfl) ((hAx x a').putObj (s := ()) _ aY (by simp [R]) rY rfl) hlen) ?_
    have ends : ∀ (j : Option Code) (X : World), KeepsFrom w.heap.size (Y.putObj R busy) X →
        X.heap[R]? = some busy ∧ X.heap[D]? = some (.deferred (some [])) := fun j X kX => ⟨kX.same _ _ (by simp [R]) rZ rfl, kX.same _ _ (Nat.le_refl _) dZ rfl⟩
    have up : ∀ {A A' : World}, KeepsFrom w.heap.size A A' → KeepsFrom W1.heap.size A A' := fun h => ⟨h.size, fun k o hk => h.same k o (by omega)⟩
    have left : ∀ (c : Code) (X : World), Stay w.heap.size (Y.putObj R busy) X → Ix c (pre ++ [x]) X →
        ∃ v W', (Instr.endRound R (some c)).run P X = .ok v W' ∧ ((Ending.returned v = .returned (.bool true) ∧ J (pre ++ [x]) W' ∧ KC B V W' ∧ KeepsFrom W1.heap.size V W') ∨ (Ending.returned v = .returned (.bool false) ∧ Jx (pre ++ [x]) W' ∧ Stay W1.heap.size V W')) := by
      intro c X sX iX
      obtain ⟨rX, dX⟩ := ends (some c) X sX.keeps
      refine ⟨_, _, run_endRound (P := P) (some c) rX, .inr ⟨rfl, ⟨c, (hIx c).putObj _ iX (by simp [R]) rX rfl, World.putObj_heap_same (Array.getElem?_eq_some_iff.1 rX).1, (World.putObj_heap_other (by simp [R, D])).trans dX⟩, ?_⟩⟩
      exact (((sY.up (by omega)).trans (Stay.put _ (by simp [R, sz1]))).trans (sX.up (by omega))).trans (Stay.put _ (by simp [R, sz1]))
    rintro e a3 X hp
    cases e with
    | normal =>
      obtain ⟨kX, cX, iX⟩ := hp
      obtain ⟨rX, dX⟩ := ends none X kX
      refine ⟨_, _, run_endRound (P := P) none rX, .inl ⟨rfl, ⟨hI.putObj _ iX (by simp [R]) rX rfl, World.putObj_heap_same (Array.getElem?_eq_some_iff.1 rX).1, (World.putObj_heap_other (by simp [R, D])).trans dX⟩, ?_, ?_⟩⟩
      · exact ((cY.trans (KC.put _ rY rfl)).trans cX).trans (KC.put _ rX rfl)
      · exact (((up kY).trans (keeps_put _ (by simp [R, sz1]))).trans (up kX)).trans (keeps_put _ (by simp [R, sz1]))
    | ret => exact left .ret X hp.1 hp.2
    | exit id => exact left (.exit id) X hp.1 hp.2
    | goto t => exact left (.goto t) X hp.1 hp.2
    | panic ch => exact hp.elim
    | outgrown => exact hp.elim
  have own1 : ∀ {A : World}, I [] w → I [] W1 := fun h => hI.alloc _ (hI.alloc _ h)
  have call := hseq R J Jx W1 bel1 oJ oJx round ⟨own1 (A := w) h0, atR, atD⟩
  refine callsIn_wide.2 (callsIn_wide.1 (call.mono ?_))
  rintro e X ⟨⟨v, rfl⟩, ⟨iX, rX, dX⟩ | ⟨pre, hpre, c, iX, rX, dX⟩⟩
  · exact ⟨none, _, run_endLoop (P := P) rX (by simp [rc]), hdone D _ (Nat.le_refl _) (hI.putObj _ iX (by simp [R]) rX rfl) ((World.putObj_heap_other (by simp [R, D])).trans dX)⟩
  · exact ⟨some c, _, run_endLoop (P := P) rX (by simp [rc]), hstop D c pre _ (Nat.le_refl _) hpre ((hIx c).putObj _ iX (by simp [R]) rX rfl) ((World.putObj_heap_other (by simp [R, D])).trans dX)⟩

end Go.Proofs.YtfoodjhffehgpaaGreatDoor.Tb
end

section
/-
  DERIVED. Rows that are handed over one by one.
-/
namespace Go.Proofs.YtfoodjhffehgpaaGreatDoor.Tb
open Go Go.RowKit Go.Shelf
attribute [local go_sem] Oper.semAt_some

/-- A row of the dictionary, as the program has it. -/
structure Row where
  t : Nat
  v : Int
  l : Int
  m : Int
  s : ByteArray
def Row.cs (r : Row) : List Value := [.int .u32 (r.t : Int), .int .i64 r.v, .int .i64 r.l, .int .i64 r.m, .string r.s]
def Row.val (r : Row) : Value := .agg #[.int .u32 (r.t : Int), .int .i64 r.v, .int .i64 r.l, .int .i64 r.m, .string r.s]
def rowCs (L : List Row) : Array Value := (L.flatMap Row.cs).toArray
theorem row_get : ∀ (L : List Row) (k : Nat) (r : Row), L[k]? = some r → ∀ j, j < 5 → (L.flatMap Row.cs)[5 * k + j]? = r.cs[j]?
  | [], k, r, h => by simp at h
  | x :: L, 0, r, h => by
    obtain rfl : x = r := by simpa using h
    intro j hj
    rw [List.flatMap_cons, List.getElem?_append_left (by simp [Row.cs]; omega)]
    simp
  | x :: L, k + 1, r, h => by
    intro j hj
    rw [List.flatMap_cons, List.getElem?_append_right (by simp [Row.cs]; omega)]
    have := row_get L k r (by simpa using h) j hj
    rw [← this]
    congr 1
    simp [Row.cs]
    omega

theorem cell_row {W : World} {b : Nat} {t : TypeId} {L : List Row} {k : Nat} {r : Row} (h : W.heap[b]? = some (.cells (rowCs L) t (0, 0))) (hk : L[k]? = some r) (j : Nat) (hj : j < 5) : W.cell? ⟨b, 5 * k + j, none⟩ = r.cs[j]? := by
  have := row_get L k r hk j hj
  simp [World.cell?, h, rowCs]
  exact this

set_option maxRecDepth 100000 in
set_option maxHeartbeats 2000000 in
theorem give_any (l B b s : Nat) (t : TypeId) (L : List Row) (hL : L.length ≤ 1000) (J Jx : List Row → World → Prop) (oJ : OwnFrom s J)
    (hY : ∀ pre x W1, J pre W1 → pre.length < L.length → YieldAt Fence.wide 0 Tryz.prog l #[x.val] W1 fun e W' =>
      (e = .returned (.bool true) ∧ J (pre ++ [x]) W' ∧ KC B W1 W' ∧ KeepsFrom s W1 W') ∨ (e = .returned (.bool false) ∧ Jx (pre ++ [x]) W' ∧ Stay s W1 W'))
    (W : World) (hb : W.heap[b]? = some (.cells (rowCs L) t (0, 0))) (hbB : b ≠ B) (h0 : J [] W) :
    CallsIn Fence.wide 0 Tryz.prog 197 #[.func (.yield l) #[] #[], .slice (some ⟨b, 0, none⟩) L.length L.length] W fun e W' => (∃ v, e = .returned v) ∧ (J L W' ∨ ∃ pre, pre <+: L ∧ Jx pre W') := by
  refine callsIn_of_wp Tryz.func197 rfl trivial ?_ rfl
  simp only [Tryz.ntmps197, List.size_toArray, List.length_cons, List.length_nil, Nat.reduceAdd, Nat.reduceSub, Array.replicate_succ, Array.replicate_zero, List.push_toArray, List.append_toArray, List.nil_append, List.cons_append]
  gi_wp2
  gi_loopw [8] (fun i wr => ∃ k : Nat, i = .int .i64 (k : Int) ∧ k ≤ L.length ∧ J (L.take k) wr ∧ wr.heap[b]? = some (.cells (rowCs L) t (0, 0)))
    (fun i _ => L.length - (intOf i).toNat)
  case atStart => exact ⟨0, rfl, Nat.zero_le _, h0, hb⟩
  case round =>
    obtain ⟨k, rfl, hk, hJ, hbr⟩ := hrel
    by_cases hlt : k < L.length
    · obtain ⟨x, hx⟩ : ∃ x, L[k]? = some x := ⟨L[k], by simp [hlt]⟩
      have hkI : decide ((k : Int) < (L.length : Int)) = true := by simp; omega
      have r0 : wr.cell? ⟨b, k * 5, none⟩ = some (.int .u32 (x.t : Int)) := by have := cell_row hbr hx 0 (by omega); rw [Nat.mul_comm] at this; exact this
      have r1 : wr.cell? ⟨b, k * 5 + 1, none⟩ = some (.int .i64 x.v) := by have := cell_row hbr hx 1 (by omega); rw [Nat.mul_comm] at this; exact this
      have r2 : wr.cell? ⟨b, k * 5 + 2, none⟩ = some (.int .i64 x.l) := by have := cell_row hbr hx 2 (by omega); rw [Nat.mul_comm] at this; exact this
      have r3 : wr.cell? ⟨b, k * 5 + 3, none⟩ = some (.int .i64 x.m) := by have := cell_row hbr hx 3 (by omega); rw [Nat.mul_comm] at this; exact this
      have r4 : wr.cell? ⟨b, k * 5 + 4, none⟩ = some (.string x.s) := by have := cell_row hbr hx 4 (by omega); rw [Nat.mul_comm] at this; exact this
      obtain ⟨fn, tmps, assign, body, hy, hR⟩ := hY (L.take k) x (wr.alloc (.cells #[.int .u32 (x.t : Int), .int .i64 x.v, .int .i64 x.l, .int .i64 x.m, .string x.s] 209)) (oJ.alloc _ hJ) (by simp; omega)
      unfold Row.val at hy
      clear hY
      gi_wp2
      refine ⟨rfl, hR.mono ?_⟩
      rintro e W3 (⟨rfl, hJ3, hc3, hk3⟩ | ⟨rfl, hx3, _⟩)
      · have hT : L.take k ++ [x] = L.take (k + 1) := by rw [List.take_add_one, hx]; rfl
        rw [hT] at hJ3
        have hb3 : W3.heap[b]? = some (.cells (rowCs L) t (0, 0)) := hc3.same b _ ((Below.heap_alloc wr _ b (Array.getElem?_eq_some_iff.1 hbr).1).trans hbr) rfl hbB
        gi_wp2
        go_roundw
        case rel => exact ⟨k + 1, by simp, by omega, hJ3, hb3⟩
        case measure => simp [intOf]; omega
      · gi_wp2
        refine bodyPost_ret (results_none rfl _ _ _) rfl ?_
        refine ⟨⟨_, rfl⟩, .inr ⟨L.take k ++ [x], ?_, hx3⟩⟩
        rw [show L.take k ++ [x] = L.take (k + 1) by rw [List.take_add_one, hx]; rfl]
        exact List.take_prefix _ _
    · have hkI : decide ((k : Int) < (L.length : Int)) = false := by simp; omega
      rw [List.take_of_length_le (by omega)] at hJ
      gi_wp2
      go_end0
      exact ⟨⟨_, rfl⟩, .inl hJ⟩
end Go.Proofs.YtfoodjhffehgpaaGreatDoor.Tb
end

section
/-
  DERIVED. The ten lists of rows.
-/
namespace Go.Proofs.YtfoodjhffehgpaaGreatDoor.Tb
open Go Go.RowKit Go.Shelf

def rows0 : List Row := [
  ⟨0, 24, 1, 1, ⟨#[67, 111, 109, 109, 97, 110, 100, 71, 114, 111, 117, 112, 76, 101, 110, 103, 116, 104]⟩⟩,
  ⟨2, 23, 1, 1, ⟨#[65, 102, 102, 101, 99, 116, 101, 100, 83, 79, 80, 67, 108, 97, 115, 115, 85, 73, 68]⟩⟩,
  ⟨3, 23, 1, 1, ⟨#[82, 101, 113, 117, 101, 115, 116, 101, 100, 83, 79, 80, 67, 108, 97, 115, 115, 85, 73, 68]⟩⟩,
  ⟨256, 27, 1, 1, ⟨#[67, 111, 109, 109, 97, 110, 100, 70, 105, 101, 108, 100]⟩⟩,
  ⟨272, 27, 1, 1, ⟨#[77, 101, 115, 115, 97, 103, 101, 73, 68]⟩⟩,
  ⟨288, 27, 1, 1, ⟨#[77, 101, 115, 115, 97, 103, 101, 73, 68, 66, 101, 105, 110, 103, 82, 101, 115, 112, 111, 110, 100, 101, 100, 84, 111]⟩⟩,
  ⟨1536, 1, 1, 1, ⟨#[77, 111, 118, 101, 68, 101, 115, 116, 105, 110, 97, 116, 105, 111, 110]⟩⟩,
  ⟨1792, 27, 1, 1, ⟨#[80, 114, 105, 111, 114, 105, 116, 121]⟩⟩,
  ⟨2048, 27, 1, 1, ⟨#[67, 111, 109, 109, 97, 110, 100, 68, 97, 116, 97, 83, 101, 116, 84, 121, 112, 101]⟩⟩,
  ⟨2304, 27, 1, 1, ⟨#[83, 116, 97, 116, 117, 115]⟩⟩,
  ⟨2305, 3, 1, 0, ⟨#[79, 102, 102, 101, 110, 100, 105, 110, 103, 69, 108, 101, 109, 101, 110, 116]⟩⟩,
  ⟨2306, 11, 1, 1, ⟨#[69, 114, 114, 111, 114, 67, 111, 109, 109, 101, 110, 116]⟩⟩,
  ⟨2307, 27, 1, 1, ⟨#[69, 114, 114, 111, 114, 73, 68]⟩⟩,
  ⟨4096, 23, 1, 1, ⟨#[65, 102, 102, 101, 99, 116, 101, 100, 83, 79, 80, 73, 110, 115, 116, 97, 110, 99, 101, 85, 73, 68]⟩⟩,
  ⟨4097, 23, 1, 1, ⟨#[82, 101, 113, 117, 101, 115, 116, 101, 100, 83, 79, 80, 73, 110, 115, 116, 97, 110, 99, 101, 85, 73, 68]⟩⟩,
  ⟨4098, 27, 1, 1, ⟨#[69, 118, 101, 110, 116, 84, 121, 112, 101, 73, 68]⟩⟩,
  ⟨4101, 3, 1, 0, ⟨#[65, 116, 116, 114, 105, 98, 117, 116, 101, 73, 100, 101, 110, 116, 105, 102, 105, 101, 114, 76, 105, 115, 116]⟩⟩,
  ⟨4104, 27, 1, 1, ⟨#[65, 99, 116, 105, 111, 110, 84, 121, 112, 101, 73, 68]⟩⟩,
  ⟨131072, 24, 1, 1, ⟨#[70, 105, 108, 101, 77, 101, 116, 97, 73, 110, 102, 111, 114, 109, 97, 116, 105, 111, 110, 71, 114, 111, 117, 112, 76, 101, 110, 103, 116, 104]⟩⟩,
  ⟨131073, 13, 1, 1, ⟨#[70, 105, 108, 101, 77, 101, 116, 97, 73, 110, 102, 111, 114, 109, 97, 116, 105, 111, 110, 86, 101, 114, 115, 105, 111, 110]⟩⟩,
  ⟨131074, 23, 1, 1, ⟨#[77, 101, 100, 105, 97, 83, 116, 111, 114, 97, 103, 101, 83, 79, 80, 67, 108, 97, 115, 115, 85, 73, 68]⟩⟩,
  ⟨131075, 23, 1, 1, ⟨#[77, 101, 100, 105, 97, 83, 116, 111, 114, 97, 103, 101, 83, 79, 80, 73, 110, 115, 116, 97, 110, 99, 101, 85, 73, 68]⟩⟩,
  ⟨131088, 23, 1, 1, ⟨#[84, 114, 97, 110, 115, 102, 101, 114, 83, 121, 110, 116, 97, 120, 85, 73, 68]⟩⟩,
  ⟨131090, 23, 1, 1, ⟨#[73, 109, 112, 108, 101, 109, 101, 110, 116, 97, 116, 105, 111, 110, 67, 108, 97, 115, 115, 85, 73, 68]⟩⟩,
  ⟨131091, 16, 1, 1, ⟨#[73, 109, 112, 108, 101, 109, 101, 110, 116, 97, 116, 105, 111, 110, 86, 101, 114, 115, 105, 111, 110, 78, 97, 109, 101]⟩⟩]
def rows1 : List Row := [
  ⟨524293, 4, 1, 0, ⟨#[83, 112, 101, 99, 105, 102, 105, 99, 67, 104, 97, 114, 97, 99, 116, 101, 114, 83, 101, 116]⟩⟩,
  ⟨524296, 4, 2, 0, ⟨#[73, 109, 97, 103, 101, 84, 121, 112, 101]⟩⟩,
  ⟨524306, 5, 1, 1, ⟨#[73, 110, 115, 116, 97, 110, 99, 101, 67, 114, 101, 97, 116, 105, 111, 110, 68, 97, 116, 101]⟩⟩,
  ⟨524307, 21, 1, 1, ⟨#[73, 110, 115, 116, 97, 110, 99, 101, 67, 114, 101, 97, 116, 105, 111, 110, 84, 105, 109, 101]⟩⟩,
  ⟨524308, 23, 1, 1, ⟨#[73, 110, 115, 116, 97, 110, 99, 101, 67, 114, 101, 97, 116, 111, 114, 85, 73, 68]⟩⟩,
  ⟨524310, 23, 1, 1, ⟨#[83, 79, 80, 67, 108, 97, 115, 115, 85, 73, 68]⟩⟩,
  ⟨524312, 23, 1, 1, ⟨#[83, 79, 80, 73, 110, 115, 116, 97, 110, 99, 101, 85, 73, 68]⟩⟩,
  ⟨524320, 5, 1, 1, ⟨#[83, 116, 117, 100, 121, 68, 97, 116, 101]⟩⟩,
  ⟨524321, 5, 1, 1, ⟨#[83, 101, 114, 105, 101, 115, 68, 97, 116, 101]⟩⟩,
  ⟨524322, 5, 1, 1, ⟨#[65, 99, 113, 117, 105, 115, 105, 116, 105, 111, 110, 68, 97, 116, 101]⟩⟩,
  ⟨524323, 5, 1, 1, ⟨#[67, 111, 110, 116, 101, 110, 116, 68, 97, 116, 101]⟩⟩,
  ⟨524330, 7, 1, 1, ⟨#[65, 99, 113, 117, 105, 115, 105, 116, 105, 111, 110, 68, 97, 116, 101, 84, 105, 109, 101]⟩⟩,
  ⟨524336, 21, 1, 1, ⟨#[83, 116, 117, 100, 121, 84, 105, 109, 101]⟩⟩,
  ⟨524337, 21, 1, 1, ⟨#[83, 101, 114, 105, 101, 115, 84, 105, 109, 101]⟩⟩,
  ⟨524338, 21, 1, 1, ⟨#[65, 99, 113, 117, 105, 115, 105, 116, 105, 111, 110, 84, 105, 109, 101]⟩⟩,
  ⟨524339, 21, 1, 1, ⟨#[67, 111, 110, 116, 101, 110, 116, 84, 105, 109, 101]⟩⟩,
  ⟨524368, 16, 1, 1, ⟨#[65, 99, 99, 101, 115, 115, 105, 111, 110, 78, 117, 109, 98, 101, 114]⟩⟩,
  ⟨524369, 18, 1, 1, ⟨#[73, 115, 115, 117, 101, 114, 79, 102, 65, 99, 99, 101, 115, 115, 105, 111, 110, 78, 117, 109, 98, 101, 114, 83, 101, 113, 117, 101, 110, 99, 101]⟩⟩,
  ⟨524370, 4, 1, 1, ⟨#[81, 117, 101, 114, 121, 82, 101, 116, 114, 105, 101, 118, 101, 76, 101, 118, 101, 108]⟩⟩,
  ⟨524372, 1, 1, 0, ⟨#[82, 101, 116, 114, 105, 101, 118, 101, 65, 69, 84, 105, 116, 108, 101]⟩⟩,
  ⟨524374, 4, 1, 1, ⟨#[73, 110, 115, 116, 97, 110, 99, 101, 65, 118, 97, 105, 108, 97, 98, 105, 108, 105, 116, 121]⟩⟩,
  ⟨524376, 23, 1, 0, ⟨#[70, 97, 105, 108, 101, 100, 83, 79, 80, 73, 110, 115, 116, 97, 110, 99, 101, 85, 73, 68, 76, 105, 115, 116]⟩⟩,
  ⟨524384, 4, 1, 1, ⟨#[77, 111, 100, 97, 108, 105, 116, 121]⟩⟩,
  ⟨524385, 4, 1, 0, ⟨#[77, 111, 100, 97, 108, 105, 116, 105, 101, 115, 73, 110, 83, 116, 117, 100, 121]⟩⟩,
  ⟨524388, 4, 1, 1, ⟨#[67, 111, 110, 118, 101, 114, 115, 105, 111, 110, 84, 121, 112, 101]⟩⟩,
  ⟨524400, 11, 1, 1, ⟨#[77, 97, 110, 117, 102, 97, 99, 116, 117, 114, 101, 114]⟩⟩,
  ⟨524416, 11, 1, 1, ⟨#[73, 110, 115, 116, 105, 116, 117, 116, 105, 111, 110, 78, 97, 109, 101]⟩⟩,
  ⟨524417, 20, 1, 1, ⟨#[73, 110, 115, 116, 105, 116, 117, 116, 105, 111, 110, 65, 100, 100, 114, 101, 115, 115]⟩⟩,
  ⟨524418, 18, 1, 1, ⟨#[73, 110, 115, 116, 105, 116, 117, 116, 105, 111, 110, 67, 111, 100, 101, 83, 101, 113, 117, 101, 110, 99, 101]⟩⟩,
  ⟨524432, 15, 1, 1, ⟨#[82, 101, 102, 101, 114, 114, 105, 110, 103, 80, 104, 121, 115, 105, 99, 105, 97, 110, 78, 97, 109, 101]⟩⟩,
  ⟨524434, 20, 1, 1, ⟨#[82, 101, 102, 101, 114, 114, 105, 110, 103, 80, 104, 121, 115, 105, 99, 105, 97, 110, 65, 100, 100, 114, 101, 115, 115]⟩⟩,
  ⟨524436, 16, 1, 0, ⟨#[82, 101, 102, 101, 114, 114, 105, 110, 103, 80, 104, 121, 115, 105, 99, 105, 97, 110, 84, 101, 108, 101, 112, 104, 111, 110, 101, 78, 117, 109, 98, 101, 114, 115]⟩⟩,
  ⟨524438, 18, 1, 1, ⟨#[82, 101, 102, 101, 114, 114, 105, 110, 103, 80, 104, 121, 115, 105, 99, 105, 97, 110, 73, 100, 101, 110, 116, 105, 102, 105, 99, 97, 116, 105, 111, 110, 83, 101, 113, 117, 101, 110, 99, 101]⟩⟩,
  ⟨524544, 16, 1, 1, ⟨#[67, 111, 100, 101, 86, 97, 108, 117, 101]⟩⟩,
  ⟨524546, 16, 1, 1, ⟨#[67, 111, 100, 105, 110, 103, 83, 99, 104, 101, 109, 101, 68, 101, 115, 105, 103, 110, 97, 116, 111, 114]⟩⟩,
  ⟨524547, 16, 1, 1, ⟨#[67, 111, 100, 105, 110, 103, 83, 99, 104, 101, 109, 101, 86, 101, 114, 115, 105, 111, 110]⟩⟩,
  ⟨524548, 11, 1, 1, ⟨#[67, 111, 100, 101, 77, 101, 97, 110, 105, 110, 103]⟩⟩,
  ⟨524549, 4, 1, 1, ⟨#[77, 97, 112, 112, 105, 110, 103, 82, 101, 115, 111, 117, 114, 99, 101]⟩⟩,
  ⟨524550, 7, 1, 1, ⟨#[67, 111, 110, 116, 101, 120, 116, 71, 114, 111, 117, 112, 86, 101, 114, 115, 105, 111, 110]⟩⟩,
  ⟨524559, 4, 1, 1, ⟨#[67, 111, 110, 116, 101, 120, 116, 73, 100, 101, 110, 116, 105, 102, 105, 101, 114]⟩⟩,
  ⟨524569, 22, 1, 1, ⟨#[76, 111, 110, 103, 67, 111, 100, 101, 86, 97, 108, 117, 101]⟩⟩,
  ⟨524576, 26, 1, 1, ⟨#[85, 82, 78, 67, 111, 100, 101, 86, 97, 108, 117, 101]⟩⟩,
  ⟨524801, 16, 1, 1, ⟨#[84, 105, 109, 101, 122, 111, 110, 101, 79, 102, 102, 115, 101, 116, 70, 114, 111, 109, 85, 84, 67]⟩⟩]
def rows2 : List Row := [
  ⟨528400, 16, 1, 1, ⟨#[83, 116, 97, 116, 105, 111, 110, 78, 97, 109, 101]⟩⟩,
  ⟨528432, 11, 1, 1, ⟨#[83, 116, 117, 100, 121, 68, 101, 115, 99, 114, 105, 112, 116, 105, 111, 110]⟩⟩,
  ⟨528434, 18, 1, 1, ⟨#[80, 114, 111, 99, 101, 100, 117, 114, 101, 67, 111, 100, 101, 83, 101, 113, 117, 101, 110, 99, 101]⟩⟩,
  ⟨528446, 11, 1, 1, ⟨#[83, 101, 114, 105, 101, 115, 68, 101, 115, 99, 114, 105, 112, 116, 105, 111, 110]⟩⟩,
  ⟨528448, 11, 1, 1, ⟨#[73, 110, 115, 116, 105, 116, 117, 116, 105, 111, 110, 97, 108, 68, 101, 112, 97, 114, 116, 109, 101, 110, 116, 78, 97, 109, 101]⟩⟩,
  ⟨528456, 15, 1, 0, ⟨#[80, 104, 121, 115, 105, 99, 105, 97, 110, 115, 79, 102, 82, 101, 99, 111, 114, 100]⟩⟩,
  ⟨528464, 15, 1, 0, ⟨#[80, 101, 114, 102, 111, 114, 109, 105, 110, 103, 80, 104, 121, 115, 105, 99, 105, 97, 110, 78, 97, 109, 101]⟩⟩,
  ⟨528480, 15, 1, 0, ⟨#[78, 97, 109, 101, 79, 102, 80, 104, 121, 115, 105, 99, 105, 97, 110, 115, 82, 101, 97, 100, 105, 110, 103, 83, 116, 117, 100, 121]⟩⟩,
  ⟨528496, 15, 1, 0, ⟨#[79, 112, 101, 114, 97, 116, 111, 114, 115, 78, 97, 109, 101]⟩⟩,
  ⟨528512, 11, 1, 0, ⟨#[65, 100, 109, 105, 116, 116, 105, 110, 103, 68, 105, 97, 103, 110, 111, 115, 101, 115, 68, 101, 115, 99, 114, 105, 112, 116, 105, 111, 110]⟩⟩,
  ⟨528516, 18, 1, 1, ⟨#[65, 100, 109, 105, 116, 116, 105, 110, 103, 68, 105, 97, 103, 110, 111, 115, 101, 115, 67, 111, 100, 101, 83, 101, 113, 117, 101, 110, 99, 101]⟩⟩,
  ⟨528528, 11, 1, 1, ⟨#[77, 97, 110, 117, 102, 97, 99, 116, 117, 114, 101, 114, 77, 111, 100, 101, 108, 78, 97, 109, 101]⟩⟩,
  ⟨528656, 18, 1, 1, ⟨#[82, 101, 102, 101, 114, 101, 110, 99, 101, 100, 83, 116, 117, 100, 121, 83, 101, 113, 117, 101, 110, 99, 101]⟩⟩,
  ⟨528657, 18, 1, 1, ⟨#[82, 101, 102, 101, 114, 101, 110, 99, 101, 100, 80, 101, 114, 102, 111, 114, 109, 101, 100, 80, 114, 111, 99, 101, 100, 117, 114, 101, 83, 116, 101, 112, 83, 101, 113, 117, 101, 110, 99, 101]⟩⟩,
  ⟨528661, 18, 1, 1, ⟨#[82, 101, 102, 101, 114, 101, 110, 99, 101, 100, 83, 101, 114, 105, 101, 115, 83, 101, 113, 117, 101, 110, 99, 101]⟩⟩,
  ⟨528672, 18, 1, 1, ⟨#[82, 101, 102, 101, 114, 101, 110, 99, 101, 100, 80, 97, 116, 105, 101, 110, 116, 83, 101, 113, 117, 101, 110, 99, 101]⟩⟩,
  ⟨528704, 18, 1, 1, ⟨#[82, 101, 102, 101, 114, 101, 110, 99, 101, 100, 73, 109, 97, 103, 101, 83, 101, 113, 117, 101, 110, 99, 101]⟩⟩,
  ⟨528720, 23, 1, 1, ⟨#[82, 101, 102, 101, 114, 101, 110, 99, 101, 100, 83, 79, 80, 67, 108, 97, 115, 115, 85, 73, 68]⟩⟩,
  ⟨528725, 23, 1, 1, ⟨#[82, 101, 102, 101, 114, 101, 110, 99, 101, 100, 83, 79, 80, 73, 110, 115, 116, 97, 110, 99, 101, 85, 73, 68]⟩⟩,
  ⟨528736, 10, 1, 0, ⟨#[82, 101, 102, 101, 114, 101, 110, 99, 101, 100, 70, 114, 97, 109, 101, 78, 117, 109, 98, 101, 114]⟩⟩,
  ⟨528789, 23, 1, 1, ⟨#[84, 114, 97, 110, 115, 97, 99, 116, 105, 111, 110, 85, 73, 68]⟩⟩,
  ⟨528791, 27, 1, 1, ⟨#[70, 97, 105, 108, 117, 114, 101, 82, 101, 97, 115, 111, 110]⟩⟩,
  ⟨528792, 18, 1, 1, ⟨#[70, 97, 105, 108, 101, 100, 83, 79, 80, 83, 101, 113, 117, 101, 110, 99, 101]⟩⟩,
  ⟨528793, 18, 1, 1, ⟨#[82, 101, 102, 101, 114, 101, 110, 99, 101, 100, 83, 79, 80, 83, 101, 113, 117, 101, 110, 99, 101]⟩⟩,
  ⟨532753, 20, 1, 1, ⟨#[68, 101, 114, 105, 118, 97, 116, 105, 111, 110, 68, 101, 115, 99, 114, 105, 112, 116, 105, 111, 110]⟩⟩]
def rows3 : List Row := [
  ⟨1048592, 15, 1, 1, ⟨#[80, 97, 116, 105, 101, 110, 116, 78, 97, 109, 101]⟩⟩,
  ⟨1048608, 11, 1, 1, ⟨#[80, 97, 116, 105, 101, 110, 116, 73, 68]⟩⟩,
  ⟨1048609, 11, 1, 1, ⟨#[73, 115, 115, 117, 101, 114, 79, 102, 80, 97, 116, 105, 101, 110, 116, 73, 68]⟩⟩,
  ⟨1048610, 4, 1, 1, ⟨#[84, 121, 112, 101, 79, 102, 80, 97, 116, 105, 101, 110, 116, 73, 68]⟩⟩,
  ⟨1048612, 18, 1, 1, ⟨#[73, 115, 115, 117, 101, 114, 79, 102, 80, 97, 116, 105, 101, 110, 116, 73, 68, 81, 117, 97, 108, 105, 102, 105, 101, 114, 115, 83, 101, 113, 117, 101, 110, 99, 101]⟩⟩,
  ⟨1048624, 5, 1, 1, ⟨#[80, 97, 116, 105, 101, 110, 116, 66, 105, 114, 116, 104, 68, 97, 116, 101]⟩⟩,
  ⟨1048626, 21, 1, 1, ⟨#[80, 97, 116, 105, 101, 110, 116, 66, 105, 114, 116, 104, 84, 105, 109, 101]⟩⟩,
  ⟨1048640, 4, 1, 1, ⟨#[80, 97, 116, 105, 101, 110, 116, 83, 101, 120]⟩⟩,
  ⟨1052672, 11, 1, 0, ⟨#[79, 116, 104, 101, 114, 80, 97, 116, 105, 101, 110, 116, 73, 68, 115]⟩⟩,
  ⟨1052673, 15, 1, 0, ⟨#[79, 116, 104, 101, 114, 80, 97, 116, 105, 101, 110, 116, 78, 97, 109, 101, 115]⟩⟩,
  ⟨1052674, 18, 1, 1, ⟨#[79, 116, 104, 101, 114, 80, 97, 116, 105, 101, 110, 116, 73, 68, 115, 83, 101, 113, 117, 101, 110, 99, 101]⟩⟩,
  ⟨1052677, 15, 1, 1, ⟨#[80, 97, 116, 105, 101, 110, 116, 66, 105, 114, 116, 104, 78, 97, 109, 101]⟩⟩,
  ⟨1052688, 2, 1, 1, ⟨#[80, 97, 116, 105, 101, 110, 116, 65, 103, 101]⟩⟩,
  ⟨1052704, 6, 1, 1, ⟨#[80, 97, 116, 105, 101, 110, 116, 83, 105, 122, 101]⟩⟩,
  ⟨1052720, 6, 1, 1, ⟨#[80, 97, 116, 105, 101, 110, 116, 87, 101, 105, 103, 104, 116]⟩⟩,
  ⟨1052736, 11, 1, 1, ⟨#[80, 97, 116, 105, 101, 110, 116, 65, 100, 100, 114, 101, 115, 115]⟩⟩,
  ⟨1052768, 15, 1, 1, ⟨#[80, 97, 116, 105, 101, 110, 116, 77, 111, 116, 104, 101, 114, 66, 105, 114, 116, 104, 78, 97, 109, 101]⟩⟩,
  ⟨1052800, 11, 1, 1, ⟨#[77, 105, 108, 105, 116, 97, 114, 121, 82, 97, 110, 107]⟩⟩,
  ⟨1056768, 11, 1, 0, ⟨#[77, 101, 100, 105, 99, 97, 108, 65, 108, 101, 114, 116, 115]⟩⟩,
  ⟨1057040, 11, 1, 0, ⟨#[65, 108, 108, 101, 114, 103, 105, 101, 115]⟩⟩,
  ⟨1057108, 16, 1, 0, ⟨#[80, 97, 116, 105, 101, 110, 116, 84, 101, 108, 101, 112, 104, 111, 110, 101, 78, 117, 109, 98, 101, 114, 115]⟩⟩,
  ⟨1057120, 16, 1, 1, ⟨#[69, 116, 104, 110, 105, 99, 71, 114, 111, 117, 112]⟩⟩,
  ⟨1057152, 16, 1, 1, ⟨#[79, 99, 99, 117, 112, 97, 116, 105, 111, 110]⟩⟩,
  ⟨1057184, 4, 1, 1, ⟨#[83, 109, 111, 107, 105, 110, 103, 83, 116, 97, 116, 117, 115]⟩⟩,
  ⟨1057200, 12, 1, 1, ⟨#[65, 100, 100, 105, 116, 105, 111, 110, 97, 108, 80, 97, 116, 105, 101, 110, 116, 72, 105, 115, 116, 111, 114, 121]⟩⟩,
  ⟨1057216, 27, 1, 1, ⟨#[80, 114, 101, 103, 110, 97, 110, 99, 121, 83, 116, 97, 116, 117, 115]⟩⟩,
  ⟨1057232, 5, 1, 1, ⟨#[76, 97, 115, 116, 77, 101, 110, 115, 116, 114, 117, 97, 108, 68, 97, 116, 101]⟩⟩,
  ⟨1057264, 11, 1, 1, ⟨#[80, 97, 116, 105, 101, 110, 116, 82, 101, 108, 105, 103, 105, 111, 117, 115, 80, 114, 101, 102, 101, 114, 101, 110, 99, 101]⟩⟩,
  ⟨1064960, 12, 1, 1, ⟨#[80, 97, 116, 105, 101, 110, 116, 67, 111, 109, 109, 101, 110, 116, 115]⟩⟩]
def rows4 : List Row := [
  ⟨1572880, 11, 1, 1, ⟨#[67, 111, 110, 116, 114, 97, 115, 116, 66, 111, 108, 117, 115, 65, 103, 101, 110, 116]⟩⟩,
  ⟨1572885, 4, 1, 1, ⟨#[66, 111, 100, 121, 80, 97, 114, 116, 69, 120, 97, 109, 105, 110, 101, 100]⟩⟩,
  ⟨1576960, 11, 1, 1, ⟨#[68, 101, 118, 105, 99, 101, 83, 101, 114, 105, 97, 108, 78, 117, 109, 98, 101, 114]⟩⟩,
  ⟨1577008, 11, 1, 1, ⟨#[80, 114, 111, 116, 111, 99, 111, 108, 78, 97, 109, 101]⟩⟩,
  ⟨1577310, 6, 1, 1, ⟨#[73, 109, 97, 103, 101, 65, 110, 100, 70, 108, 117, 111, 114, 111, 115, 99, 111, 112, 121, 65, 114, 101, 97, 68, 111, 115, 101, 80, 114, 111, 100, 117, 99, 116]⟩⟩,
  ⟨1597462, 24, 1, 1, ⟨#[82, 101, 103, 105, 111, 110, 70, 108, 97, 103, 115]⟩⟩,
  ⟨1597472, 17, 1, 1, ⟨#[82, 101, 102, 101, 114, 101, 110, 99, 101, 80, 105, 120, 101, 108, 88, 48]⟩⟩,
  ⟨1609843, 8, 1, 1, ⟨#[65, 99, 113, 117, 105, 115, 105, 116, 105, 111, 110, 68, 117, 114, 97, 116, 105, 111, 110]⟩⟩,
  ⟨1609844, 7, 1, 1, ⟨#[70, 114, 97, 109, 101, 65, 99, 113, 117, 105, 115, 105, 116, 105, 111, 110, 68, 97, 116, 101, 84, 105, 109, 101]⟩⟩,
  ⟨1610265, 19, 1, 1, ⟨#[84, 97, 103, 65, 110, 103, 108, 101, 83, 101, 99, 111, 110, 100, 65, 120, 105, 115]⟩⟩,
  ⟨2097165, 23, 1, 1, ⟨#[83, 116, 117, 100, 121, 73, 110, 115, 116, 97, 110, 99, 101, 85, 73, 68]⟩⟩,
  ⟨2097166, 23, 1, 1, ⟨#[83, 101, 114, 105, 101, 115, 73, 110, 115, 116, 97, 110, 99, 101, 85, 73, 68]⟩⟩,
  ⟨2097168, 16, 1, 1, ⟨#[83, 116, 117, 100, 121, 73, 68]⟩⟩,
  ⟨2097169, 10, 1, 1, ⟨#[83, 101, 114, 105, 101, 115, 78, 117, 109, 98, 101, 114]⟩⟩,
  ⟨2097170, 10, 1, 1, ⟨#[65, 99, 113, 117, 105, 115, 105, 116, 105, 111, 110, 78, 117, 109, 98, 101, 114]⟩⟩,
  ⟨2097171, 10, 1, 1, ⟨#[73, 110, 115, 116, 97, 110, 99, 101, 78, 117, 109, 98, 101, 114]⟩⟩,
  ⟨2097234, 23, 1, 1, ⟨#[70, 114, 97, 109, 101, 79, 102, 82, 101, 102, 101, 114, 101, 110, 99, 101, 85, 73, 68]⟩⟩,
  ⟨2097248, 4, 1, 1, ⟨#[76, 97, 116, 101, 114, 97, 108, 105, 116, 121]⟩⟩,
  ⟨2101768, 10, 1, 1, ⟨#[78, 117, 109, 98, 101, 114, 79, 102, 83, 116, 117, 100, 121, 82, 101, 108, 97, 116, 101, 100, 73, 110, 115, 116, 97, 110, 99, 101, 115]⟩⟩,
  ⟨2113536, 12, 1, 1, ⟨#[73, 109, 97, 103, 101, 67, 111, 109, 109, 101, 110, 116, 115]⟩⟩,
  ⟨2621442, 27, 1, 1, ⟨#[83, 97, 109, 112, 108, 101, 115, 80, 101, 114, 80, 105, 120, 101, 108]⟩⟩,
  ⟨2621444, 4, 1, 1, ⟨#[80, 104, 111, 116, 111, 109, 101, 116, 114, 105, 99, 73, 110, 116, 101, 114, 112, 114, 101, 116, 97, 116, 105, 111, 110]⟩⟩,
  ⟨2621448, 10, 1, 1, ⟨#[78, 117, 109, 98, 101, 114, 79, 102, 70, 114, 97, 109, 101, 115]⟩⟩,
  ⟨2621456, 27, 1, 1, ⟨#[82, 111, 119, 115]⟩⟩,
  ⟨2621457, 27, 1, 1, ⟨#[67, 111, 108, 117, 109, 110, 115]⟩⟩,
  ⟨2621488, 6, 2, 2, ⟨#[80, 105, 120, 101, 108, 83, 112, 97, 99, 105, 110, 103]⟩⟩,
  ⟨2621696, 27, 1, 1, ⟨#[66, 105, 116, 115, 65, 108, 108, 111, 99, 97, 116, 101, 100]⟩⟩,
  ⟨2621697, 27, 1, 1, ⟨#[66, 105, 116, 115, 83, 116, 111, 114, 101, 100]⟩⟩,
  ⟨2625616, 6, 1, 0, ⟨#[87, 105, 110, 100, 111, 119, 67, 101, 110, 116, 101, 114]⟩⟩,
  ⟨2625617, 6, 1, 0, ⟨#[87, 105, 110, 100, 111, 119, 87, 105, 100, 116, 104]⟩⟩]
def rows5 : List Row := [
  ⟨3280946, 15, 1, 1, ⟨#[82, 101, 113, 117, 101, 115, 116, 105, 110, 103, 80, 104, 121, 115, 105, 99, 105, 97, 110]⟩⟩,
  ⟨3280947, 11, 1, 1, ⟨#[82, 101, 113, 117, 101, 115, 116, 105, 110, 103, 83, 101, 114, 118, 105, 99, 101]⟩⟩,
  ⟨3280992, 11, 1, 1, ⟨#[82, 101, 113, 117, 101, 115, 116, 101, 100, 80, 114, 111, 99, 101, 100, 117, 114, 101, 68, 101, 115, 99, 114, 105, 112, 116, 105, 111, 110]⟩⟩,
  ⟨3280996, 18, 1, 1, ⟨#[82, 101, 113, 117, 101, 115, 116, 101, 100, 80, 114, 111, 99, 101, 100, 117, 114, 101, 67, 111, 100, 101, 83, 101, 113, 117, 101, 110, 99, 101]⟩⟩,
  ⟨3281008, 11, 1, 1, ⟨#[82, 101, 113, 117, 101, 115, 116, 101, 100, 67, 111, 110, 116, 114, 97, 115, 116, 65, 103, 101, 110, 116]⟩⟩,
  ⟨3670020, 18, 1, 1, ⟨#[82, 101, 102, 101, 114, 101, 110, 99, 101, 100, 80, 97, 116, 105, 101, 110, 116, 65, 108, 105, 97, 115, 83, 101, 113, 117, 101, 110, 99, 101]⟩⟩,
  ⟨3670024, 4, 1, 1, ⟨#[86, 105, 115, 105, 116, 83, 116, 97, 116, 117, 115, 73, 68]⟩⟩,
  ⟨3670032, 11, 1, 1, ⟨#[65, 100, 109, 105, 115, 115, 105, 111, 110, 73, 68]⟩⟩,
  ⟨3670036, 18, 1, 1, ⟨#[73, 115, 115, 117, 101, 114, 79, 102, 65, 100, 109, 105, 115, 115, 105, 111, 110, 73, 68, 83, 101, 113, 117, 101, 110, 99, 101]⟩⟩,
  ⟨3670096, 11, 1, 1, ⟨#[83, 112, 101, 99, 105, 97, 108, 78, 101, 101, 100, 115]⟩⟩,
  ⟨3670784, 11, 1, 1, ⟨#[67, 117, 114, 114, 101, 110, 116, 80, 97, 116, 105, 101, 110, 116, 76, 111, 99, 97, 116, 105, 111, 110]⟩⟩,
  ⟨3671040, 11, 1, 1, ⟨#[80, 97, 116, 105, 101, 110, 116, 73, 110, 115, 116, 105, 116, 117, 116, 105, 111, 110, 82, 101, 115, 105, 100, 101, 110, 99, 101]⟩⟩,
  ⟨3671296, 11, 1, 1, ⟨#[80, 97, 116, 105, 101, 110, 116, 83, 116, 97, 116, 101]⟩⟩,
  ⟨3686400, 12, 1, 1, ⟨#[86, 105, 115, 105, 116, 67, 111, 109, 109, 101, 110, 116, 115]⟩⟩]
def rows6 : List Row := [
  ⟨4194305, 1, 1, 0, ⟨#[83, 99, 104, 101, 100, 117, 108, 101, 100, 83, 116, 97, 116, 105, 111, 110, 65, 69, 84, 105, 116, 108, 101]⟩⟩,
  ⟨4194306, 5, 1, 1, ⟨#[83, 99, 104, 101, 100, 117, 108, 101, 100, 80, 114, 111, 99, 101, 100, 117, 114, 101, 83, 116, 101, 112, 83, 116, 97, 114, 116, 68, 97, 116, 101]⟩⟩,
  ⟨4194307, 21, 1, 1, ⟨#[83, 99, 104, 101, 100, 117, 108, 101, 100, 80, 114, 111, 99, 101, 100, 117, 114, 101, 83, 116, 101, 112, 83, 116, 97, 114, 116, 84, 105, 109, 101]⟩⟩,
  ⟨4194308, 5, 1, 1, ⟨#[83, 99, 104, 101, 100, 117, 108, 101, 100, 80, 114, 111, 99, 101, 100, 117, 114, 101, 83, 116, 101, 112, 69, 110, 100, 68, 97, 116, 101]⟩⟩,
  ⟨4194309, 21, 1, 1, ⟨#[83, 99, 104, 101, 100, 117, 108, 101, 100, 80, 114, 111, 99, 101, 100, 117, 114, 101, 83, 116, 101, 112, 69, 110, 100, 84, 105, 109, 101]⟩⟩,
  ⟨4194310, 15, 1, 1, ⟨#[83, 99, 104, 101, 100, 117, 108, 101, 100, 80, 101, 114, 102, 111, 114, 109, 105, 110, 103, 80, 104, 121, 115, 105, 99, 105, 97, 110, 78, 97, 109, 101]⟩⟩,
  ⟨4194311, 11, 1, 1, ⟨#[83, 99, 104, 101, 100, 117, 108, 101, 100, 80, 114, 111, 99, 101, 100, 117, 114, 101, 83, 116, 101, 112, 68, 101, 115, 99, 114, 105, 112, 116, 105, 111, 110]⟩⟩,
  ⟨4194312, 18, 1, 1, ⟨#[83, 99, 104, 101, 100, 117, 108, 101, 100, 80, 114, 111, 116, 111, 99, 111, 108, 67, 111, 100, 101, 83, 101, 113, 117, 101, 110, 99, 101]⟩⟩,
  ⟨4194313, 16, 1, 1, ⟨#[83, 99, 104, 101, 100, 117, 108, 101, 100, 80, 114, 111, 99, 101, 100, 117, 114, 101, 83, 116, 101, 112, 73, 68]⟩⟩,
  ⟨4194314, 18, 1, 1, ⟨#[83, 116, 97, 103, 101, 67, 111, 100, 101, 83, 101, 113, 117, 101, 110, 99, 101]⟩⟩,
  ⟨4194320, 16, 1, 0, ⟨#[83, 99, 104, 101, 100, 117, 108, 101, 100, 83, 116, 97, 116, 105, 111, 110, 78, 97, 109, 101]⟩⟩,
  ⟨4194321, 16, 1, 1, ⟨#[83, 99, 104, 101, 100, 117, 108, 101, 100, 80, 114, 111, 99, 101, 100, 117, 114, 101, 83, 116, 101, 112, 76, 111, 99, 97, 116, 105, 111, 110]⟩⟩,
  ⟨4194322, 11, 1, 1, ⟨#[80, 114, 101, 77, 101, 100, 105, 99, 97, 116, 105, 111, 110]⟩⟩,
  ⟨4194336, 4, 1, 1, ⟨#[83, 99, 104, 101, 100, 117, 108, 101, 100, 80, 114, 111, 99, 101, 100, 117, 114, 101, 83, 116, 101, 112, 83, 116, 97, 116, 117, 115]⟩⟩,
  ⟨4194342, 18, 1, 1, ⟨#[79, 114, 100, 101, 114, 80, 108, 97, 99, 101, 114, 73, 100, 101, 110, 116, 105, 102, 105, 101, 114, 83, 101, 113, 117, 101, 110, 99, 101]⟩⟩,
  ⟨4194343, 18, 1, 1, ⟨#[79, 114, 100, 101, 114, 70, 105, 108, 108, 101, 114, 73, 100, 101, 110, 116, 105, 102, 105, 101, 114, 83, 101, 113, 117, 101, 110, 99, 101]⟩⟩,
  ⟨4194560, 18, 1, 1, ⟨#[83, 99, 104, 101, 100, 117, 108, 101, 100, 80, 114, 111, 99, 101, 100, 117, 114, 101, 83, 116, 101, 112, 83, 101, 113, 117, 101, 110, 99, 101]⟩⟩,
  ⟨4194848, 18, 1, 1, ⟨#[82, 101, 102, 101, 114, 101, 110, 99, 101, 100, 78, 111, 110, 73, 109, 97, 103, 101, 67, 111, 109, 112, 111, 115, 105, 116, 101, 83, 79, 80, 73, 110, 115, 116, 97, 110, 99, 101, 83, 101, 113, 117, 101, 110, 99, 101]⟩⟩]
def rows7 : List Row := [
  ⟨4194881, 1, 1, 1, ⟨#[80, 101, 114, 102, 111, 114, 109, 101, 100, 83, 116, 97, 116, 105, 111, 110, 65, 69, 84, 105, 116, 108, 101]⟩⟩,
  ⟨4194882, 16, 1, 1, ⟨#[80, 101, 114, 102, 111, 114, 109, 101, 100, 83, 116, 97, 116, 105, 111, 110, 78, 97, 109, 101]⟩⟩,
  ⟨4194883, 16, 1, 1, ⟨#[80, 101, 114, 102, 111, 114, 109, 101, 100, 76, 111, 99, 97, 116, 105, 111, 110]⟩⟩,
  ⟨4194884, 5, 1, 1, ⟨#[80, 101, 114, 102, 111, 114, 109, 101, 100, 80, 114, 111, 99, 101, 100, 117, 114, 101, 83, 116, 101, 112, 83, 116, 97, 114, 116, 68, 97, 116, 101]⟩⟩,
  ⟨4194885, 21, 1, 1, ⟨#[80, 101, 114, 102, 111, 114, 109, 101, 100, 80, 114, 111, 99, 101, 100, 117, 114, 101, 83, 116, 101, 112, 83, 116, 97, 114, 116, 84, 105, 109, 101]⟩⟩,
  ⟨4194896, 5, 1, 1, ⟨#[80, 101, 114, 102, 111, 114, 109, 101, 100, 80, 114, 111, 99, 101, 100, 117, 114, 101, 83, 116, 101, 112, 69, 110, 100, 68, 97, 116, 101]⟩⟩,
  ⟨4194897, 21, 1, 1, ⟨#[80, 101, 114, 102, 111, 114, 109, 101, 100, 80, 114, 111, 99, 101, 100, 117, 114, 101, 83, 116, 101, 112, 69, 110, 100, 84, 105, 109, 101]⟩⟩,
  ⟨4194898, 4, 1, 1, ⟨#[80, 101, 114, 102, 111, 114, 109, 101, 100, 80, 114, 111, 99, 101, 100, 117, 114, 101, 83, 116, 101, 112, 83, 116, 97, 116, 117, 115]⟩⟩,
  ⟨4194899, 16, 1, 1, ⟨#[80, 101, 114, 102, 111, 114, 109, 101, 100, 80, 114, 111, 99, 101, 100, 117, 114, 101, 83, 116, 101, 112, 73, 68]⟩⟩,
  ⟨4194900, 11, 1, 1, ⟨#[80, 101, 114, 102, 111, 114, 109, 101, 100, 80, 114, 111, 99, 101, 100, 117, 114, 101, 83, 116, 101, 112, 68, 101, 115, 99, 114, 105, 112, 116, 105, 111, 110]⟩⟩,
  ⟨4194901, 11, 1, 1, ⟨#[80, 101, 114, 102, 111, 114, 109, 101, 100, 80, 114, 111, 99, 101, 100, 117, 114, 101, 84, 121, 112, 101, 68, 101, 115, 99, 114, 105, 112, 116, 105, 111, 110]⟩⟩,
  ⟨4194912, 18, 1, 1, ⟨#[80, 101, 114, 102, 111, 114, 109, 101, 100, 80, 114, 111, 116, 111, 99, 111, 108, 67, 111, 100, 101, 83, 101, 113, 117, 101, 110, 99, 101]⟩⟩,
  ⟨4194928, 18, 1, 1, ⟨#[83, 99, 104, 101, 100, 117, 108, 101, 100, 83, 116, 101, 112, 65, 116, 116, 114, 105, 98, 117, 116, 101, 115, 83, 101, 113, 117, 101, 110, 99, 101]⟩⟩,
  ⟨4194933, 18, 1, 1, ⟨#[82, 101, 113, 117, 101, 115, 116, 65, 116, 116, 114, 105, 98, 117, 116, 101, 115, 83, 101, 113, 117, 101, 110, 99, 101]⟩⟩,
  ⟨4194944, 20, 1, 1, ⟨#[67, 111, 109, 109, 101, 110, 116, 115, 79, 110, 84, 104, 101, 80, 101, 114, 102, 111, 114, 109, 101, 100, 80, 114, 111, 99, 101, 100, 117, 114, 101, 83, 116, 101, 112]⟩⟩,
  ⟨4194945, 18, 1, 1, ⟨#[80, 101, 114, 102, 111, 114, 109, 101, 100, 80, 114, 111, 99, 101, 100, 117, 114, 101, 83, 116, 101, 112, 68, 105, 115, 99, 111, 110, 116, 105, 110, 117, 97, 116, 105, 111, 110, 82, 101, 97, 115, 111, 110, 67, 111, 100, 101, 83, 101, 113, 117, 101, 110, 99, 101]⟩⟩,
  ⟨4194963, 18, 1, 1, ⟨#[81, 117, 97, 110, 116, 105, 116, 121, 83, 101, 113, 117, 101, 110, 99, 101]⟩⟩,
  ⟨4194964, 6, 1, 1, ⟨#[81, 117, 97, 110, 116, 105, 116, 121]⟩⟩,
  ⟨4194965, 18, 1, 1, ⟨#[77, 101, 97, 115, 117, 114, 105, 110, 103, 85, 110, 105, 116, 115, 83, 101, 113, 117, 101, 110, 99, 101]⟩⟩,
  ⟨4194966, 18, 1, 1, ⟨#[66, 105, 108, 108, 105, 110, 103, 73, 116, 101, 109, 83, 101, 113, 117, 101, 110, 99, 101]⟩⟩,
  ⟨4195072, 27, 1, 1, ⟨#[84, 111, 116, 97, 108, 84, 105, 109, 101, 79, 102, 70, 108, 117, 111, 114, 111, 115, 99, 111, 112, 121]⟩⟩,
  ⟨4195073, 27, 1, 1, ⟨#[84, 111, 116, 97, 108, 78, 117, 109, 98, 101, 114, 79, 102, 69, 120, 112, 111, 115, 117, 114, 101, 115]⟩⟩,
  ⟨4195074, 27, 1, 1, ⟨#[69, 110, 116, 114, 97, 110, 99, 101, 68, 111, 115, 101]⟩⟩,
  ⟨4195075, 27, 1, 2, ⟨#[69, 120, 112, 111, 115, 101, 100, 65, 114, 101, 97]⟩⟩,
  ⟨4195078, 6, 1, 1, ⟨#[68, 105, 115, 116, 97, 110, 99, 101, 83, 111, 117, 114, 99, 101, 84, 111, 69, 110, 116, 114, 97, 110, 99, 101]⟩⟩,
  ⟨4195086, 18, 1, 1, ⟨#[69, 120, 112, 111, 115, 117, 114, 101, 68, 111, 115, 101, 83, 101, 113, 117, 101, 110, 99, 101]⟩⟩,
  ⟨4195088, 20, 1, 1, ⟨#[67, 111, 109, 109, 101, 110, 116, 115, 79, 110, 82, 97, 100, 105, 97, 116, 105, 111, 110, 68, 111, 115, 101]⟩⟩,
  ⟨4195092, 6, 1, 1, ⟨#[72, 97, 108, 102, 86, 97, 108, 117, 101, 76, 97, 121, 101, 114]⟩⟩,
  ⟨4195094, 6, 1, 1, ⟨#[79, 114, 103, 97, 110, 68, 111, 115, 101]⟩⟩,
  ⟨4195096, 4, 1, 1, ⟨#[79, 114, 103, 97, 110, 69, 120, 112, 111, 115, 101, 100]⟩⟩,
  ⟨4195104, 18, 1, 1, ⟨#[66, 105, 108, 108, 105, 110, 103, 80, 114, 111, 99, 101, 100, 117, 114, 101, 83, 116, 101, 112, 83, 101, 113, 117, 101, 110, 99, 101]⟩⟩,
  ⟨4195105, 18, 1, 1, ⟨#[70, 105, 108, 109, 67, 111, 110, 115, 117, 109, 112, 116, 105, 111, 110, 83, 101, 113, 117, 101, 110, 99, 101]⟩⟩,
  ⟨4195108, 18, 1, 1, ⟨#[66, 105, 108, 108, 105, 110, 103, 83, 117, 112, 112, 108, 105, 101, 115, 65, 110, 100, 68, 101, 118, 105, 99, 101, 115, 83, 101, 113, 117, 101, 110, 99, 101]⟩⟩,
  ⟨4195136, 18, 1, 1, ⟨#[80, 101, 114, 102, 111, 114, 109, 101, 100, 83, 101, 114, 105, 101, 115, 83, 101, 113, 117, 101, 110, 99, 101]⟩⟩,
  ⟨4195328, 12, 1, 1, ⟨#[67, 111, 109, 109, 101, 110, 116, 115, 79, 110, 84, 104, 101, 83, 99, 104, 101, 100, 117, 108, 101, 100, 80, 114, 111, 99, 101, 100, 117, 114, 101, 83, 116, 101, 112]⟩⟩,
  ⟨4195392, 18, 1, 1, ⟨#[80, 114, 111, 116, 111, 99, 111, 108, 67, 111, 110, 116, 101, 120, 116, 83, 101, 113, 117, 101, 110, 99, 101]⟩⟩]
def rows8 : List Row := [
  ⟨4198401, 16, 1, 1, ⟨#[82, 101, 113, 117, 101, 115, 116, 101, 100, 80, 114, 111, 99, 101, 100, 117, 114, 101, 73, 68]⟩⟩,
  ⟨4198402, 11, 1, 1, ⟨#[82, 101, 97, 115, 111, 110, 70, 111, 114, 84, 104, 101, 82, 101, 113, 117, 101, 115, 116, 101, 100, 80, 114, 111, 99, 101, 100, 117, 114, 101]⟩⟩,
  ⟨4198403, 16, 1, 1, ⟨#[82, 101, 113, 117, 101, 115, 116, 101, 100, 80, 114, 111, 99, 101, 100, 117, 114, 101, 80, 114, 105, 111, 114, 105, 116, 121]⟩⟩,
  ⟨4198404, 11, 1, 1, ⟨#[80, 97, 116, 105, 101, 110, 116, 84, 114, 97, 110, 115, 112, 111, 114, 116, 65, 114, 114, 97, 110, 103, 101, 109, 101, 110, 116, 115]⟩⟩,
  ⟨4198405, 11, 1, 1, ⟨#[82, 101, 113, 117, 101, 115, 116, 101, 100, 80, 114, 111, 99, 101, 100, 117, 114, 101, 76, 111, 99, 97, 116, 105, 111, 110]⟩⟩,
  ⟨4198408, 11, 1, 1, ⟨#[67, 111, 110, 102, 105, 100, 101, 110, 116, 105, 97, 108, 105, 116, 121, 67, 111, 100, 101]⟩⟩,
  ⟨4198409, 16, 1, 1, ⟨#[82, 101, 112, 111, 114, 116, 105, 110, 103, 80, 114, 105, 111, 114, 105, 116, 121]⟩⟩,
  ⟨4198410, 18, 1, 1, ⟨#[82, 101, 97, 115, 111, 110, 70, 111, 114, 82, 101, 113, 117, 101, 115, 116, 101, 100, 80, 114, 111, 99, 101, 100, 117, 114, 101, 67, 111, 100, 101, 83, 101, 113, 117, 101, 110, 99, 101]⟩⟩,
  ⟨4198416, 15, 1, 0, ⟨#[78, 97, 109, 101, 115, 79, 102, 73, 110, 116, 101, 110, 100, 101, 100, 82, 101, 99, 105, 112, 105, 101, 110, 116, 115, 79, 102, 82, 101, 115, 117, 108, 116, 115]⟩⟩,
  ⟨4199424, 12, 1, 1, ⟨#[82, 101, 113, 117, 101, 115, 116, 101, 100, 80, 114, 111, 99, 101, 100, 117, 114, 101, 67, 111, 109, 109, 101, 110, 116, 115]⟩⟩,
  ⟨4202500, 5, 1, 1, ⟨#[73, 115, 115, 117, 101, 68, 97, 116, 101, 79, 102, 73, 109, 97, 103, 105, 110, 103, 83, 101, 114, 118, 105, 99, 101, 82, 101, 113, 117, 101, 115, 116]⟩⟩,
  ⟨4202501, 21, 1, 1, ⟨#[73, 115, 115, 117, 101, 84, 105, 109, 101, 79, 102, 73, 109, 97, 103, 105, 110, 103, 83, 101, 114, 118, 105, 99, 101, 82, 101, 113, 117, 101, 115, 116]⟩⟩,
  ⟨4202504, 15, 1, 1, ⟨#[79, 114, 100, 101, 114, 69, 110, 116, 101, 114, 101, 100, 66, 121]⟩⟩,
  ⟨4202512, 16, 1, 1, ⟨#[79, 114, 100, 101, 114, 67, 97, 108, 108, 98, 97, 99, 107, 80, 104, 111, 110, 101, 78, 117, 109, 98, 101, 114]⟩⟩,
  ⟨4202518, 11, 1, 1, ⟨#[80, 108, 97, 99, 101, 114, 79, 114, 100, 101, 114, 78, 117, 109, 98, 101, 114, 73, 109, 97, 103, 105, 110, 103, 83, 101, 114, 118, 105, 99, 101, 82, 101, 113, 117, 101, 115, 116]⟩⟩,
  ⟨4202519, 11, 1, 1, ⟨#[70, 105, 108, 108, 101, 114, 79, 114, 100, 101, 114, 78, 117, 109, 98, 101, 114, 73, 109, 97, 103, 105, 110, 103, 83, 101, 114, 118, 105, 99, 101, 82, 101, 113, 117, 101, 115, 116]⟩⟩,
  ⟨4203520, 12, 1, 1, ⟨#[73, 109, 97, 103, 105, 110, 103, 83, 101, 114, 118, 105, 99, 101, 82, 101, 113, 117, 101, 115, 116, 67, 111, 109, 109, 101, 110, 116, 115]⟩⟩,
  ⟨4206593, 11, 1, 1, ⟨#[67, 111, 110, 102, 105, 100, 101, 110, 116, 105, 97, 108, 105, 116, 121, 67, 111, 110, 115, 116, 114, 97, 105, 110, 116, 79, 110, 80, 97, 116, 105, 101, 110, 116, 68, 97, 116, 97, 68, 101, 115, 99, 114, 105, 112, 116, 105, 111, 110]⟩⟩,
  ⟨4235328, 4, 1, 1, ⟨#[86, 97, 108, 117, 101, 84, 121, 112, 101]⟩⟩,
  ⟨4235331, 18, 1, 1, ⟨#[67, 111, 110, 99, 101, 112, 116, 78, 97, 109, 101, 67, 111, 100, 101, 83, 101, 113, 117, 101, 110, 99, 101]⟩⟩,
  ⟨4235616, 28, 1, 1, ⟨#[84, 101, 120, 116, 86, 97, 108, 117, 101]⟩⟩,
  ⟨4235624, 18, 1, 1, ⟨#[67, 111, 110, 99, 101, 112, 116, 67, 111, 100, 101, 83, 101, 113, 117, 101, 110, 99, 101]⟩⟩,
  ⟨4236042, 6, 1, 0, ⟨#[78, 117, 109, 101, 114, 105, 99, 86, 97, 108, 117, 101]⟩⟩]
def rows9 : List Row := [
  ⟨7340064, 27, 1, 1, ⟨#[71, 114, 97, 112, 104, 105, 99, 68, 105, 109, 101, 110, 115, 105, 111, 110, 115]⟩⟩,
  ⟨7340066, 9, 2, 0, ⟨#[71, 114, 97, 112, 104, 105, 99, 68, 97, 116, 97]⟩⟩,
  ⟨1610612752, 27, 1, 1, ⟨#[79, 118, 101, 114, 108, 97, 121, 82, 111, 119, 115]⟩⟩,
  ⟨1610612753, 27, 1, 1, ⟨#[79, 118, 101, 114, 108, 97, 121, 67, 111, 108, 117, 109, 110, 115]⟩⟩,
  ⟨1610612770, 11, 1, 1, ⟨#[79, 118, 101, 114, 108, 97, 121, 68, 101, 115, 99, 114, 105, 112, 116, 105, 111, 110]⟩⟩,
  ⟨1610612800, 4, 1, 1, ⟨#[79, 118, 101, 114, 108, 97, 121, 84, 121, 112, 101]⟩⟩,
  ⟨1610612816, 19, 2, 2, ⟨#[79, 118, 101, 114, 108, 97, 121, 79, 114, 105, 103, 105, 110]⟩⟩,
  ⟨1610625024, 14, 1, 1, ⟨#[79, 118, 101, 114, 108, 97, 121, 68, 97, 116, 97]⟩⟩,
  ⟨2145386512, 14, 1, 1, ⟨#[80, 105, 120, 101, 108, 68, 97, 116, 97]⟩⟩,
  ⟨4294770684, 13, 1, 1, ⟨#[68, 97, 116, 97, 83, 101, 116, 84, 114, 97, 105, 108, 105, 110, 103, 80, 97, 100, 100, 105, 110, 103]⟩⟩]

end Go.Proofs.YtfoodjhffehgpaaGreatDoor.Tb
end
