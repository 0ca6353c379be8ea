import Derived.RangeFuncNested
import Derived.RangeFuncLeaves
import Derived.WalkKit
import Derived.RangeFuncBound
import Derived.RangeFuncCalls
import Derived.Shelf.Abstract
import Derived.Shelf.RegionOpen
import Derived.OwnWalkIn
import Derived.TacticsInMore
import Derived.LoopNIn
import Derived.LoopIn
import Derived.Test.YteglammdigmmfaaGreatDoorProg
/-
  DERIVED. A range over a function that itself ranges over functions: what its iterator promises, and what the loop may lean on.
-/
namespace Go.Proofs.YteglammdigmmfaaGreatDoor.Tb
open Go Go.RowKit

/-- All cells but one block's are kept. -/
structure KC (B : Nat) (W W' : World) : Prop where
  size : W.heap.size ≤ W'.heap.size
  same : ∀ (k : Nat) (o : Obj), W.heap[k]? = some o → o.isCells = true → k ≠ B → W'.heap[k]? = some o
theorem KC.trans {B : Nat} {X Y Z : World} (h : KC B X Y) (k : KC B Y Z) : KC B X Z := ⟨Nat.le_trans h.size k.size, fun i o hi hc hB => k.same i o (h.same i o hi hc hB) hc hB⟩
theorem KC.refl (B : Nat) (W : World) : KC B W W := ⟨Nat.le_refl _, fun _ _ h _ _ => h⟩
theorem KC.put {B l : Nat} {W : World} {o : Obj} (o' : Obj) (h : W.heap[l]? = some o) (hc : o.isCells = false) : KC B W (W.putObj l o') := by
  refine ⟨by simp, fun k x hk hx _ => ?_⟩
  have hne : k ≠ l := by
    rintro rfl
    rw [hk] at h
    cases h
    rw [hx] at hc
    cases hc
  exact (World.putObj_heap_other hne).trans hk
theorem keeps_put {s l : Nat} {W : World} (o' : Obj) (h : l < s) : KeepsFrom s W (W.putObj l o') :=
  ⟨by simp, fun k x hk hx _ => (World.putObj_heap_other (by omega)).trans hx⟩

/-- From block s on all lies as it lay. -/
def Stay (s : Nat) (V V' : World) : Prop := V.heap.size ≤ V'.heap.size ∧ ∀ k, s ≤ k → k < V.heap.size → V'.heap[k]? = V.heap[k]?
theorem Stay.refl (s : Nat) (V : World) : Stay s V V := ⟨Nat.le_refl _, fun _ _ _ => rfl⟩
theorem Stay.trans {s : Nat} {A B C : World} (h : Stay s A B) (k : Stay s B C) : Stay s A C :=
  ⟨Nat.le_trans h.1 k.1, fun i h1 h2 => (k.2 i h1 (Nat.lt_of_lt_of_le h2 h.1)).trans (h.2 i h1 h2)⟩
theorem Stay.of_below {s : Nat} {V V' : World} (h : Below V.heap.size V V') : Stay s V V' := ⟨h.size, fun k _ hk => h.block k hk⟩
theorem Stay.put {s l : Nat} {W : World} (o' : Obj) (h : l < s) : Stay s W (W.putObj l o') := ⟨by simp, fun k hk _ => World.putObj_heap_other (by omega)⟩
theorem Stay.keeps {s : Nat} {V V' : World} (h : Stay s V V') : KeepsFrom s V V' := ⟨h.1, fun k _ hk ho _ => (h.2 k hk (Array.getElem?_eq_some_iff.1 ho).1).trans ho⟩
theorem Stay.up {s s' : Nat} {V V' : World} (h : Stay s V V') (hs : s ≤ s') : Stay s' V V' := ⟨h.1, fun k hk hl => h.2 k (by omega) hl⟩

/-- What an iterator promises: it tells L, or a beginning of it if a round leaves; what the rounds promise it. -/
def Tells {α : Type} (P : Program) (gf : Nat) (lb : Array Value) (encs : α → Array Value) (B : Nat) (L : List α) (w : World) : Prop :=
  ∀ (l : Nat) (J Jx : List α → World → Prop) (W : World), Below w.heap.size w W → OwnFrom W.heap.size J → OwnFrom W.heap.size Jx →
    (∀ pre x W1, J pre W1 → pre.length < L.length → YieldAt Fence.wide 0 P l (encs x) W1 fun e W' =>
      (e = .returned (.bool true) ∧ J (pre ++ [x]) W' ∧ KC B W1 W' ∧ KeepsFrom W.heap.size W1 W') ∨ (e = .returned (.bool false) ∧ Jx (pre ++ [x]) W' ∧ Stay W.heap.size W1 W')) →
    J [] W →
    CallsIn Fence.wide 0 P gf (#[.func (.yield l) #[] #[]] ++ lb) W fun e W' => (∃ v, e = .returned v) ∧ (J L W' ∨ ∃ pre, pre <+: L ∧ Jx pre W')

/-- How a round may end. -/
def Ends {α : Type} (s B : Nat) (I : List α → World → Prop) (Ix : Code → List α → World → Prop) (xs : List α) (W : World) : Exit → Act → World → Prop
  | .normal, _, W' => KeepsFrom s W W' ∧ KC B W W' ∧ I xs W'
  | .ret, _, W' => Stay s W W' ∧ Ix .ret xs W'
  | .exit id, _, W' => Stay s W W' ∧ Ix (.exit id) xs W'
  | .goto t, _, W' => Stay s W W' ∧ Ix (.goto t) xs W'
  | .panic _, _, _ => False
  | .outgrown, _, _ => False

/-- The loop over such an iterator. -/
theorem loop_tells {α : Type} {P : Program} {n : Nat} {g : Operand} {ps : Array Tmp} {assign body : Code} {Q : Exit → Act → World → Prop} {a : Act} {w : World}
    {gf : Nat} {lb : Array Value} (hg : a.eval g = .func (.func gf) #[] lb) (eg : ∀ args w, (callFunc gf args).run P w = .ok (.enter gf args) w)
    {encs : α → Array Value} {B : Nat} {L : List α} (hseq : Tells P gf lb encs B L w) (hps : ∀ x, (encs x).size = ps.size)
    (I : List α → World → Prop) (Ix : Code → List α → World → Prop) (hI : OwnFrom w.heap.size I) (hIx : ∀ c, OwnFrom w.heap.size (Ix c)) (h0 : I [] w)
    (Ax : α → Act → World → Prop) (hAx : ∀ x a', OwnFrom w.heap.size (fun (_ : Unit) W => Ax x a' W))
    (hassign : ∀ (l : Nat) (pre : List α) (x : α) (W : World) (K : Act → World → Prop), I pre W → (∀ a' W', Stay w.heap.size W W' → KC B W W' → I pre W' → Ax x a' W' → K a' W') →
      assign.wpIn (Fence.wide.inRound l) 0 P (Exit.then K (fun _ _ _ => False)) { tmps := (ps.zip (encs x)).foldl (fun t (p, v) => t.setIfInBounds p v) a.tmps, defers := [] } W)
    (hbody : ∀ (l : Nat) (pre : List α) (x : α) (a' : Act) (W : World), I pre W → Ax x a' W → pre.length < L.length → body.wpIn (Fence.wide.inRound l) 0 P (Ends w.heap.size B I Ix (pre ++ [x]) W) a' W)
    (hdone : ∀ (D : Nat) (W : World), w.heap.size ≤ D → I L W → W.heap[D]? = some (.deferred (some [])) → Q .normal { a with defers := { target := .collected D, args := #[] } :: a.defers } W)
    (hstop : ∀ (D : Nat) (c : Code) (pre : List α) (W : World), w.heap.size ≤ D → pre <+: L → Ix c pre W → W.heap[D]? = some (.deferred (some [])) → c.wpIn Fence.wide n P Q { a with defers := { target := .collected D, args := #[] } :: a.defers } W) :
    (Code.rangeFunc g ps assign body).wpIn Fence.wide n P Q a w := by
  refine wpIn_rangeFunc fun fn _ => ?_
  let rc : LoopState → Option Code → Loop := fun st pe => { state := st, pending := pe, fn := fn, tmps := a.tmps, params := ps, assign := assign, body := body, defers := w.heap.size }
  let D := w.heap.size
  let R := w.heap.size + 1
  let W1 := (w.alloc (.deferred (some []))).alloc (.loop (rc .ready none))
  have sz1 : W1.heap.size = w.heap.size + 2 := by simp [W1]
  have atR : W1.heap[R]? = some (.loop (rc .ready none)) := by
    have := World.alloc_heap_new (w.alloc (.deferred (some []))) (.loop (rc .ready none))
    rwa [World.size_alloc] at this
  have atD : W1.heap[D]? = some (.deferred (some [])) := (Below.heap_alloc _ _ _ (by simp [D])).trans (World.alloc_heap_new w _)
  have bel1 : Below w.heap.size w W1 := ((Below.refl _ w).alloc (Nat.le_refl _) _).alloc (by simp) _
  refine ⟨R, [{ target := .collected D, args := #[] }], W1, { target := .fn (.func gf) lb, args := #[.func (.yield R) #[] #[]] }, W1, gf, #[.func (.yield R) #[] #[]] ++ lb, W1,
    run_enterLoop_outer _ _ _ _ _, by simp only [resolve, hg]; simp [go_sem], fun _ _ => trivial, by simp [invoke, go_sem, eg], fun h => (by cases h), ?_⟩
  -- the two blocks of the loop's own stand beside what the caller says
  let J : List α → World → Prop := fun pre W => I pre W ∧ W.heap[R]? = some (.loop (rc .ready none)) ∧ W.heap[D]? = some (.deferred (some []))
  let Jx : List α → World → Prop := fun pre W => ∃ c, Ix c pre W ∧ W.heap[R]? = some (.loop (rc .done (some c))) ∧ W.heap[D]? = some (.deferred (some []))
  have late : ∀ {A A' : World} {row : Option Nat}, A.grownBy A' row → (∀ r, row = some r → W1.heap.size ≤ r ∧ ∃ o : Obj, A.heap[r]? = some o ∧ o.isCells = false) → ∀ k o, k < w.heap.size + 2 → A.heap[k]? = some o → A'.heap[k]? = some o := by
    intro A A' row hgr hr k o hk hA
    refine (hgr.block k (Array.getElem?_eq_some_iff.1 hA).1 fun e => ?_).trans hA
    have := (hr k e.symm).1
    omega
  have early : ∀ {A : World} {row : Option Nat}, (∀ r, row = some r → W1.heap.size ≤ r ∧ ∃ o : Obj, A.heap[r]? = some o ∧ o.isCells = false) → ∀ r, row = some r → w.heap.size ≤ r ∧ ∃ o : Obj, A.heap[r]? = some o ∧ o.isCells = false :=
    fun h r e => ⟨by have := (h r e).1; omega, (h r e).2⟩
  have oJ : OwnFrom W1.heap.size J := fun s A A' row hs hgr hr =>
    ⟨hI s A A' row hs.1 hgr (early hr), late hgr hr R _ (by simp [R]) hs.2.1, late hgr hr D _ (by simp [D]) hs.2.2⟩
  have oJx : OwnFrom W1.heap.size Jx := fun s A A' row hs hgr hr => by
    obtain ⟨c, h1, h2, h3⟩ := hs
    exact ⟨c, hIx c s A A' row h1 hgr (early hr), late hgr hr R _ (by simp [R]) h2, late hgr hr D _ (by simp [D]) h3⟩
  have round : ∀ pre x V, J pre V → pre.length < L.length → YieldAt Fence.wide 0 P R (encs x) V fun e W' =>
      (e = .returned (.bool true) ∧ J (pre ++ [x]) W' ∧ KC B V W' ∧ KeepsFrom W1.heap.size V W') ∨ (e = .returned (.bool false) ∧ Jx (pre ++ [x]) W' ∧ Stay W1.heap.size V W') := by
    rintro pre x V ⟨iV, rV, dV⟩ hlen
    refine ⟨fn, _, assign, body, run_yield (P := P) (args := encs x) rV (hps x), roundIn_of_wpIn trivial (hassign R pre x V _ iV ?_)⟩
    intro a' Y sY cY iY aY
    have kY := sY.keeps
    have rY : Y.heap[R]? = some (.loop (rc .ready none)) := kY.same _ _ (by simp [R]) rV rfl
    have dY : Y.heap[D]? = some (.deferred (some [])) := kY.same _ _ (Nat.le_refl _) dV rfl
    refine ⟨_, run_beginRound rY rfl, ?_⟩
    let busy : Obj := .loop { rc .ready none with state := .busy }
    have rZ : (Y.putObj R busy).heap[R]? = some busy := World.putObj_heap_same (Array.getElem?_eq_some_iff.1 rY).1
    have dZ : (Y.putObj R busy).heap[D]? = some (.deferred (some [])) := (World.putObj_heap_other (by simp [R, D])).trans dY
    refine wpIn_mono (hbody R pre x a' (Y.putObj R busy) (hI.putObj _ iY (by simp [R]) rY rfl) ((hAx x a').putObj (s := ()) _ aY (by simp [R]) rY rfl) hlen) ?_
    have ends : ∀ (j : Option Code) (X : World), KeepsFrom w.heap.size (Y.putObj R busy) X →
        X.heap[R]? = some busy ∧ X.heap[D]? = some (.deferred (some [])) := fun j X kX => ⟨kX.same _ _ (by simp [R]) rZ rfl, kX.same _ _ (Nat.le_refl _) dZ rfl⟩
    have up : ∀ {A A' : World}, KeepsFrom w.heap.size A A' → KeepsFrom W1.heap.size A A' := fun h => ⟨h.size, fun k o hk => h.same k o (by omega)⟩
    have left : ∀ (c : Code) (X : World), Stay w.heap.size (Y.putObj R busy) X → Ix c (pre ++ [x]) X →
        ∃ v W', (Instr.endRound R (some c)).run P X = .ok v W' ∧ ((Ending.returned v = .returned (.bool true) ∧ J (pre ++ [x]) W' ∧ KC B V W' ∧ KeepsFrom W1.heap.size V W') ∨ (Ending.returned v = .returned (.bool false) ∧ Jx (pre ++ [x]) W' ∧ Stay W1.heap.size V W')) := by
      intro c X sX iX
      obtain ⟨rX, dX⟩ := ends (some c) X sX.keeps
      refine ⟨_, _, run_endRound (P := P) (some c) rX, .inr ⟨rfl, ⟨c, (hIx c).putObj _ iX (by simp [R]) rX rfl, World.putObj_heap_same (Array.getElem?_eq_some_iff.1 rX).1, (World.putObj_heap_other (by simp [R, D])).trans dX⟩, ?_⟩⟩
      exact (((sY.up (by omega)).trans (Stay.put _ (by simp [R, sz1]))).trans (sX.up (by omega))).trans (Stay.put _ (by simp [R, sz1]))
    rintro e a3 X hp
    cases e with
    | normal =>
      obtain ⟨kX, cX, iX⟩ := hp
      obtain ⟨rX, dX⟩ := ends none X kX
      refine ⟨_, _, run_endRound (P := P) none rX, .inl ⟨rfl, ⟨hI.putObj _ iX (by simp [R]) rX rfl, World.putObj_heap_same (Array.getElem?_eq_some_iff.1 rX).1, (World.putObj_heap_other (by simp [R, D])).trans dX⟩, ?_, ?_⟩⟩
      · exact ((cY.trans (KC.put _ rY rfl)).trans cX).trans (KC.put _ rX rfl)
      · exact (((up kY).trans (keeps_put _ (by simp [R, sz1]))).trans (up kX)).trans (keeps_put _ (by simp [R, sz1]))
    | ret => exact left .ret X hp.1 hp.2
    | exit id => exact left (.exit id) X hp.1 hp.2
    | goto t => exact left (.goto t) X hp.1 hp.2
    | panic ch => exact hp.elim
    | outgrown => exact hp.elim
  have own1 : ∀ {A : World}, I [] w → I [] W1 := fun h => hI.alloc _ (hI.alloc _ h)
  have call := hseq R J Jx W1 bel1 oJ oJx round ⟨own1 (A := w) h0, atR, atD⟩
  refine callsIn_wide.2 (callsIn_wide.1 (call.mono ?_))
  rintro e X ⟨⟨v, rfl⟩, ⟨iX, rX, dX⟩ | ⟨pre, hpre, c, iX, rX, dX⟩⟩
  · exact ⟨none, _, run_endLoop (P := P) rX (by simp [rc]), hdone D _ (Nat.le_refl _) (hI.putObj _ iX (by simp [R]) rX rfl) ((World.putObj_heap_other (by simp [R, D])).trans dX)⟩
  · exact ⟨some c, _, run_endLoop (P := P) rX (by simp [rc]), hstop D c pre _ (Nat.le_refl _) hpre ((hIx c).putObj _ iX (by simp [R]) rX rfl) ((World.putObj_heap_other (by simp [R, D])).trans dX)⟩

end Go.Proofs.YteglammdigmmfaaGreatDoor.Tb

/-
  DERIVED. Rows that are handed over one by one.
-/
namespace Go.Proofs.YteglammdigmmfaaGreatDoor.Tb
open Go Go.RowKit Go.Shelf
attribute [local go_sem] Oper.semAt_some

/-- A row of the dictionary, as the program has it. -/
structure Row where
  t : Nat
  v : Int
  l : Int
  m : Int
  s : ByteArray
def Row.cs (r : Row) : List Value := [.int .u32 (r.t : Int), .int .i64 r.v, .int .i64 r.l, .int .i64 r.m, .string r.s]
def Row.val (r : Row) : Value := .agg #[.int .u32 (r.t : Int), .int .i64 r.v, .int .i64 r.l, .int .i64 r.m, .string r.s]
def rowCs (L : List Row) : Array Value := (L.flatMap Row.cs).toArray
theorem row_get : ∀ (L : List Row) (k : Nat) (r : Row), L[k]? = some r → ∀ j, j < 5 → (L.flatMap Row.cs)[5 * k + j]? = r.cs[j]?
  | [], k, r, h => by simp at h
  | x :: L, 0, r, h => by
    obtain rfl : x = r := by simpa using h
    intro j hj
    rw [List.flatMap_cons, List.getElem?_append_left (by simp [Row.cs]; omega)]
    simp
  | x :: L, k + 1, r, h => by
    intro j hj
    rw [List.flatMap_cons, List.getElem?_append_right (by simp [Row.cs]; omega)]
    have := row_get L k r (by simpa using h) j hj
    rw [← this]
    congr 1
    simp [Row.cs]
    omega

theorem cell_row {W : World} {b : Nat} {t : TypeId} {L : List Row} {k : Nat} {r : Row} (h : W.heap[b]? = some (.cells (rowCs L) t (0, 0))) (hk : L[k]? = some r) (j : Nat) (hj : j < 5) : W.cell? ⟨b, 5 * k + j, none⟩ = r.cs[j]? := by
  have := row_get L k r hk j hj
  simp [World.cell?, h, rowCs]
  exact this

set_option maxRecDepth 100000 in
set_option maxHeartbeats 2000000 in
theorem give_any (l B b s : Nat) (t : TypeId) (L : List Row) (hL : L.length ≤ 1000) (J Jx : List Row → World → Prop) (oJ : OwnFrom s J)
    (hY : ∀ pre x W1, J pre W1 → pre.length < L.length → YieldAt Fence.wide 0 Tryz.prog l #[x.val] W1 fun e W' =>
      (e = .returned (.bool true) ∧ J (pre ++ [x]) W' ∧ KC B W1 W' ∧ KeepsFrom s W1 W') ∨ (e = .returned (.bool false) ∧ Jx (pre ++ [x]) W' ∧ Stay s W1 W'))
    (W : World) (hb : W.heap[b]? = some (.cells (rowCs L) t (0, 0))) (hbB : b ≠ B) (h0 : J [] W) :
    CallsIn Fence.wide 0 Tryz.prog 122 #[.func (.yield l) #[] #[], .slice (some ⟨b, 0, none⟩) L.length L.length] W fun e W' => (∃ v, e = .returned v) ∧ (J L W' ∨ ∃ pre, pre <+: L ∧ Jx pre W') := by
  refine callsIn_of_wp Tryz.func122 rfl trivial ?_ rfl
  simp only [Tryz.ntmps122, List.size_toArray, List.length_cons, List.length_nil, Nat.reduceAdd, Nat.reduceSub, Array.replicate_succ, Array.replicate_zero, List.push_toArray, List.append_toArray, List.nil_append, List.cons_append]
  gi_wp2
  gi_loopw [8] (fun i wr => ∃ k : Nat, i = .int .i64 (k : Int) ∧ k ≤ L.length ∧ J (L.take k) wr ∧ wr.heap[b]? = some (.cells (rowCs L) t (0, 0)))
    (fun i _ => L.length - (intOf i).toNat)
  case atStart => exact ⟨0, rfl, Nat.zero_le _, h0, hb⟩
  case round =>
    obtain ⟨k, rfl, hk, hJ, hbr⟩ := hrel
    by_cases hlt : k < L.length
    · obtain ⟨x, hx⟩ : ∃ x, L[k]? = some x := ⟨L[k], by simp [hlt]⟩
      have hkI : decide ((k : Int) < (L.length : Int)) = true := by simp; omega
      have r0 : wr.cell? ⟨b, k * 5, none⟩ = some (.int .u32 (x.t : Int)) := by have := cell_row hbr hx 0 (by omega); rw [Nat.mul_comm] at this; exact this
      have r1 : wr.cell? ⟨b, k * 5 + 1, none⟩ = some (.int .i64 x.v) := by have := cell_row hbr hx 1 (by omega); rw [Nat.mul_comm] at this; exact this
      have r2 : wr.cell? ⟨b, k * 5 + 2, none⟩ = some (.int .i64 x.l) := by have := cell_row hbr hx 2 (by omega); rw [Nat.mul_comm] at this; exact this
      have r3 : wr.cell? ⟨b, k * 5 + 3, none⟩ = some (.int .i64 x.m) := by have := cell_row hbr hx 3 (by omega); rw [Nat.mul_comm] at this; exact this
      have r4 : wr.cell? ⟨b, k * 5 + 4, none⟩ = some (.string x.s) := by have := cell_row hbr hx 4 (by omega); rw [Nat.mul_comm] at this; exact this
      obtain ⟨fn, tmps, assign, body, hy, hR⟩ := hY (L.take k) x (wr.alloc (.cells #[.int .u32 (x.t : Int), .int .i64 x.v, .int .i64 x.l, .int .i64 x.m, .string x.s] 87)) (oJ.alloc _ hJ) (by simp; omega)
      unfold Row.val at hy
      clear hY
      gi_wp2
      refine ⟨rfl, hR.mono ?_⟩
      rintro e W3 (⟨rfl, hJ3, hc3, hk3⟩ | ⟨rfl, hx3, _⟩)
      · have hT : L.take k ++ [x] = L.take (k + 1) := by rw [List.take_add_one, hx]; rfl
        rw [hT] at hJ3
        have hb3 : W3.heap[b]? = some (.cells (rowCs L) t (0, 0)) := hc3.same b _ ((Below.heap_alloc wr _ b (Array.getElem?_eq_some_iff.1 hbr).1).trans hbr) rfl hbB
        gi_wp2
        go_roundw
        case rel => exact ⟨k + 1, by simp, by omega, hJ3, hb3⟩
        case measure => simp [intOf]; omega
      · gi_wp2
        refine bodyPost_ret (results_none rfl _ _ _) rfl ?_
        refine ⟨⟨_, rfl⟩, .inr ⟨L.take k ++ [x], ?_, hx3⟩⟩
        rw [show L.take k ++ [x] = L.take (k + 1) by rw [List.take_add_one, hx]; rfl]
        exact List.take_prefix _ _
    · have hkI : decide ((k : Int) < (L.length : Int)) = false := by simp; omega
      rw [List.take_of_length_le (by omega)] at hJ
      gi_wp2
      go_end0
      exact ⟨⟨_, rfl⟩, .inl hJ⟩
end Go.Proofs.YteglammdigmmfaaGreatDoor.Tb
