import Derived.Test.YtmocofmlehmneaaGreatDoorTQ
import Derived.Test.YtmocofmlehmneaaGreatDoorTI
import Derived.Deep.Slices
/-
  DERIVED. Marks that loops leave; what stays where it lay; the parts' rows.
-/
namespace Go.Proofs.YtmocofmlehmneaaGreatDoor.Tb
open Go Go.RowKit Go.Shelf

/-- The marks that ranges over functions have left, newest first. -/
def Marks (n₀ : Nat) : List Deferred → World → Prop
  | [], _ => True
  | d :: ds, W => ∃ D, d = { target := .collected D, args := #[] } ∧ n₀ ≤ D ∧ W.heap[D]? = some (.deferred (some [])) ∧ (∀ d' ∈ ds, ∃ D', d' = { target := .collected D', args := #[] } ∧ D' < D) ∧ Marks n₀ ds W

theorem Marks.mem {n₀ : Nat} {W : World} : ∀ {ds : List Deferred}, Marks n₀ ds W → ∀ d ∈ ds, ∃ D, d = { target := .collected D, args := #[] } ∧ n₀ ≤ D ∧ D < W.heap.size
  | [], _, d, hd => by cases hd
  | d0 :: ds, h, d, hd => by
    obtain ⟨D, rfl, h1, h2, h3, h4⟩ := h
    rcases List.mem_cons.1 hd with rfl | hd
    · exact ⟨D, rfl, h1, (Array.getElem?_eq_some_iff.1 h2).1⟩
    · exact Marks.mem h4 d hd

theorem Marks.keep {n₀ : Nat} {W W' : World} : ∀ {ds : List Deferred}, Marks n₀ ds W → (∀ d ∈ ds, ∀ D, d = { target := .collected D, args := #[] } → W'.heap[D]? = W.heap[D]?) → Marks n₀ ds W'
  | [], _, _ => trivial
  | d0 :: ds, h, hk => by
    obtain ⟨D, rfl, h1, h2, h3, h4⟩ := h
    exact ⟨D, rfl, h1, (hk _ (List.mem_cons_self ..) D rfl).trans h2, h3, Marks.keep h4 (fun d hd D' e => hk d (List.mem_cons_of_mem _ hd) D' e)⟩

theorem Marks.below {n₀ : Nat} {W W' : World} {ds : List Deferred} (h : Marks n₀ ds W) (hb : Below W.heap.size W W') : Marks n₀ ds W' :=
  h.keep fun d hd D e => by
    obtain ⟨D', e', _, hlt⟩ := h.mem d hd
    obtain rfl : D' = D := by rw [e] at e'; simpa using e'.symm
    exact hb.block D' hlt

theorem Marks.cons {n₀ D : Nat} {w W : World} {ds : List Deferred} (h : Marks n₀ ds w) (hb : Below w.heap.size w W) (hD : w.heap.size ≤ D) (hn : n₀ ≤ w.heap.size) (hK : W.heap[D]? = some (.deferred (some []))) : Marks n₀ ({ target := .collected D, args := #[] } :: ds) W :=
  ⟨D, rfl, Nat.le_trans hn hD, hK, fun d hd => by obtain ⟨D', e, _, hlt⟩ := h.mem d hd; exact ⟨D', e, Nat.lt_of_lt_of_le hlt hD⟩, h.below hb⟩


/-- A function leaves over its marks; what abides the turning of a mark is still there. -/
theorem leaves_keep {F : Fence} {n : Nat} {P : Program} {fn : Func} {tmps : Array Value} {R : Ending → World → Prop} {n₀ : Nat} {Z : World → Prop}
    (hZ : ∀ V D o, Z V → n₀ ≤ D → V.heap[D]? = some o → o.isCells = false → Z (V.putObj D (.deferred none))) : ∀ (ds : List Deferred) (W : World), Marks n₀ ds W → Z W →
    (∀ W', Z W' → LeavesIn F n P fn tmps R [] .returning W') → LeavesInM F n P fn tmps R ds .returning W
  | [], W, _, hz, h => h W hz
  | d :: ds, W, hm, hz, h => by
    obtain ⟨D, rfl, h1, h2, h3, h4⟩ := hm
    refine ⟨by simp, .inl ⟨D, _, rfl, run_takeDeferred h2, leaves_keep hZ ds _ (h4.keep ?_) (hZ W D _ hz h1 h2 rfl) h⟩⟩
    rintro d hd D' rfl
    obtain ⟨D'', e, hlt⟩ := h3 _ hd
    obtain rfl : D'' = D' := by simpa using e.symm
    exact World.putObj_heap_other (by omega)

theorem Stay.of_kept {s B : Nat} {V V' : World} (hB : B < s) (h1 : KC B V V') (h2 : KeepsFrom s V V') : Stay s V V' := by
  refine ⟨h1.size, fun k hk hlt => ?_⟩
  obtain ⟨o, ho⟩ : ∃ o, V.heap[k]? = some o := ⟨V.heap[k], by simp [hlt]⟩
  rw [ho]
  cases hc : o.isCells with
  | true => exact h1.same k o ho hc (by omega)
  | false => exact h2.same k o hk ho hc
theorem Stay.grown {s n : Nat} {X V V' : World} {row : Option Nat} (h : Stay s X V) (hg : V.grownBy V' row) (hr : ∀ r, row = some r → n ≤ r) (hn : X.heap.size ≤ n) : Stay s X V' :=
  ⟨Nat.le_trans h.1 hg.size, fun k hk hlt => (hg.block k (Nat.lt_of_lt_of_le hlt h.1) (fun e => by have := hr k e.symm; omega)).trans (h.2 k hk hlt)⟩
theorem Stay.marks {s : Nat} {V V' : World} {ds : List Deferred} (h : Stay s V V') (hm : Marks s ds V) : Marks s ds V' :=
  hm.keep fun d hd D e => by
    obtain ⟨D', e', h1, hlt⟩ := hm.mem d hd
    obtain rfl : D' = D := by rw [e] at e'; simpa using e'.symm
    exact h.2 D' h1 hlt
theorem Stay.cell {s : Nat} {V V' : World} {p : Addr} {v : Value} (h : Stay s V V') (hs : s ≤ p.block) (hc : V.cell? p = some v) : V'.cell? p = some v :=
  (World.cell?_of_block (h.2 p.block hs (cell_lt hc))).trans hc
theorem Marks.push {s D : Nat} {w W : World} {ds : List Deferred} (h : Marks s ds w) (hb : Stay s w W) (hD : w.heap.size ≤ D) (hn : s ≤ w.heap.size) (hK : W.heap[D]? = some (.deferred (some []))) : Marks s ({ target := .collected D, args := #[] } :: ds) W :=
  ⟨D, rfl, Nat.le_trans hn hD, hK, fun d hd => by obtain ⟨D', e, _, hlt⟩ := h.mem d hd; exact ⟨D', e, Nat.lt_of_lt_of_le hlt hD⟩, hb.marks h⟩

def partRows : Nat → List Row
  | 0 => rows0
  | 1 => rows1
  | 2 => rows2
  | 3 => rows3
  | 4 => rows4
  | 5 => rows5
  | 6 => rows6
  | 7 => rows7
  | 8 => rows8
  | _ => rows9
def upTo (k : Nat) : List Row := (List.range k).flatMap partRows
theorem upTo_succ (k : Nat) : upTo (k + 1) = upTo k ++ partRows k := by simp [upTo, List.range_succ]
theorem part_tells : ∀ (k : Nat), k < 10 → ∀ (B : Nat) (w : World), B < w.heap.size → Tells Tryz.prog (98 + k) #[] (fun x : Row => #[x.val]) B (partRows k) w
  | 0, _ => tells31
  | 1, _ => tells32
  | 2, _ => tells33
  | 3, _ => tells34
  | 4, _ => tells35
  | 5, _ => tells36
  | 6, _ => tells37
  | 7, _ => tells38
  | 8, _ => tells39
  | 9, _ => tells40
  | n + 10, h => absurd h (by omega)
theorem part_enters : ∀ (k : Nat), k < 10 → ∀ args w, (callFunc (98 + k) args).run Tryz.prog w = .ok (.enter (98 + k) args) w
  | 0, _ => enters_of Tryz.func98 (by kernel_rfl) rfl
  | 1, _ => enters_of Tryz.func99 (by kernel_rfl) rfl
  | 2, _ => enters_of Tryz.func100 (by kernel_rfl) rfl
  | 3, _ => enters_of Tryz.func101 (by kernel_rfl) rfl
  | 4, _ => enters_of Tryz.func102 (by kernel_rfl) rfl
  | 5, _ => enters_of Tryz.func103 (by kernel_rfl) rfl
  | 6, _ => enters_of Tryz.func104 (by kernel_rfl) rfl
  | 7, _ => enters_of Tryz.func105 (by kernel_rfl) rfl
  | 8, _ => enters_of Tryz.func106 (by kernel_rfl) rfl
  | 9, _ => enters_of Tryz.func107 (by kernel_rfl) rfl
  | n + 10, h => absurd h (by omega)
theorem part_is : ∀ (k : Nat), k < 10 → ∃ T : Int, ∀ W : World, (Instr.index 146 (.agg partsC) (.int .i64 (k : Int))).run Tryz.prog W = .ok (.agg #[.int .u32 T, .func (.func (98 + k)) #[] #[]]) W
  | 0, _ => ⟨_, part_at 0⟩
  | 1, _ => ⟨_, part_at 1⟩
  | 2, _ => ⟨_, part_at 2⟩
  | 3, _ => ⟨_, part_at 3⟩
  | 4, _ => ⟨_, part_at 4⟩
  | 5, _ => ⟨_, part_at 5⟩
  | 6, _ => ⟨_, part_at 6⟩
  | 7, _ => ⟨_, part_at 7⟩
  | 8, _ => ⟨_, part_at 8⟩
  | 9, _ => ⟨_, part_at 9⟩
  | n + 10, h => absurd h (by omega)

/-- A frame of 18 slots by its slots. -/
theorem frame18 (t : Array Value) (h : t.size = 18) : ∃ u : Nat → Value, (∀ n, u n = t.toList.getD n undef) ∧ t = #[u 0, u 1, u 2, u 3, u 4, u 5, u 6, u 7, u 8, u 9, u 10, u 11, u 12, u 13, u 14, u 15, u 16, u 17] := by
  obtain ⟨l⟩ := t
  have hl : l.length = 18 := by simpa using h
  refine ⟨fun n => l.getD n undef, fun n => rfl, ?_⟩
  have e := Go.Deep.map_by_index l undef id
  rw [hl] at e
  have e2 : l = (List.range 18).map fun i => l.getD i undef := by simpa using e
  conv => lhs; rw [e2]
  rfl

/-- What an entry is of a row. -/
def Row.ent (r : Row) : Value := .agg #[.int .u32 (r.t : Int), .int .u32 (maskN r.t : Nat), .int .i64 r.v, .string r.s, .int .i64 r.l, .int .i64 r.m]
end Go.Proofs.YtmocofmlehmneaaGreatDoor.Tb

/-
  DERIVED. The program's dictionary, gone through.
-/
namespace Go.Proofs.YtmocofmlehmneaaGreatDoor.Tb
open Go Go.RowKit Go.Shelf
attribute [local go_sem] Oper.semAt_some

theorem upTo_prefix {k : Nat} (h : k ≤ 10) : upTo k <+: upTo 10 := by
  have : ∀ m, upTo k <+: upTo (k + m) := fun m => by
    induction m with
    | zero => exact List.prefix_refl _
    | succ m ih => rw [show k + (m + 1) = (k + m) + 1 by omega, upTo_succ]; exact ih.trans (List.prefix_append _ _)
  have h2 := this (10 - k)
  rwa [show k + (10 - k) = 10 by omega] at h2
theorem upTo_more {k : Nat} (h : k < 10) {pre : List Row} (hp : pre <+: partRows k) : upTo k ++ pre <+: upTo 10 := by
  refine List.IsPrefix.trans ?_ (upTo_prefix (k := k + 1) h)
  rw [upTo_succ]
  exact (List.prefix_append_right_inj _).2 hp

theorem grownBy_of_below {W W' : World} (h : Below W.heap.size W W') : W.grownBy W' none := ⟨h.os, h.tape, h.output, h.size, fun k hk _ => h.block k hk⟩

theorem two_ways {e : Ending} {p q : Prop} (h : (e = .returned (.bool true) ∧ p) ∨ (e = .returned (.bool false) ∧ q)) : ∃ v : Bool, e = .returned (.bool v) ∧ ((v = true ∧ p) ∨ (v = false ∧ q)) := by
  rcases h with ⟨h1, h2⟩ | ⟨h1, h2⟩
  · exact ⟨true, h1, .inl ⟨rfl, h2⟩⟩
  · exact ⟨false, h1, .inr ⟨rfl, h2⟩⟩

theorem kept_below (n B : Nat) {V V' : World} (h : Below V.heap.size V V') : KeepsFrom n V V' ∧ KC B V V' :=
  ⟨⟨h.size, fun k _ _ hk _ => (h.block k (Array.getElem?_eq_some_iff.1 hk).1).trans hk⟩, ⟨h.size, fun k _ hk _ _ => (h.block k (Array.getElem?_eq_some_iff.1 hk).1).trans hk⟩⟩

/-- Between two parts. -/
def InvE (PC : Array Value) (l s : Nat) (J : List Row → World → Prop) (a : Act) (V : World) : Prop :=
  ∃ k : Nat, k ≤ 10 ∧ a.tmps.size = 18 ∧ a.tmps.toList.getD 1 undef = .pointer (some ⟨s, 0, none⟩) ∧ a.tmps.toList.getD 5 undef = .agg PC ∧ a.tmps.toList.getD 6 undef = .int .i64 (k : Int) ∧
    J (upTo k) V ∧ V.cell? ⟨s, 0, none⟩ = some (.func (.yield l) #[] #[]) ∧ Marks s a.defers V

end Go.Proofs.YtmocofmlehmneaaGreatDoor.Tb
