import Derived.Test.YteglammdigmmfaaGreatDoorTQ
import Derived.Test.YteglammdigmmfaaGreatDoorTJ
import Derived.Deep.Slices
/-
  DERIVED. Marks that loops leave; what stays where it lay; the parts' rows.
-/
namespace Go.Proofs.YteglammdigmmfaaGreatDoor.Tb
open Go Go.RowKit Go.Shelf

/-- The marks that ranges over functions have left, newest first. -/
def Marks (n₀ : Nat) : List Deferred → World → Prop
  | [], _ => True
  | d :: ds, W => ∃ D, d = { target := .collected D, args := #[] } ∧ n₀ ≤ D ∧ W.heap[D]? = some (.deferred (some [])) ∧ (∀ d' ∈ ds, ∃ D', d' = { target := .collected D', args := #[] } ∧ D' < D) ∧ Marks n₀ ds W

theorem Marks.mem {n₀ : Nat} {W : World} : ∀ {ds : List Deferred}, Marks n₀ ds W → ∀ d ∈ ds, ∃ D, d = { target := .collected D, args := #[] } ∧ n₀ ≤ D ∧ D < W.heap.size
  | [], _, d, hd => by cases hd
  | d0 :: ds, h, d, hd => by
    obtain ⟨D, rfl, h1, h2, h3, h4⟩ := h
    rcases List.mem_cons.1 hd with rfl | hd
    · exact ⟨D, rfl, h1, (Array.getElem?_eq_some_iff.1 h2).1⟩
    · exact Marks.mem h4 d hd

theorem Marks.keep {n₀ : Nat} {W W' : World} : ∀ {ds : List Deferred}, Marks n₀ ds W → (∀ d ∈ ds, ∀ D, d = { target := .collected D, args := #[] } → W'.heap[D]? = W.heap[D]?) → Marks n₀ ds W'
  | [], _, _ => trivial
  | d0 :: ds, h, hk => by
    obtain ⟨D, rfl, h1, h2, h3, h4⟩ := h
    exact ⟨D, rfl, h1, (hk _ (List.mem_cons_self ..) D rfl).trans h2, h3, Marks.keep h4 (fun d hd D' e => hk d (List.mem_cons_of_mem _ hd) D' e)⟩

theorem Marks.below {n₀ : Nat} {W W' : World} {ds : List Deferred} (h : Marks n₀ ds W) (hb : Below W.heap.size W W') : Marks n₀ ds W' :=
  h.keep fun d hd D e => by
    obtain ⟨D', e', _, hlt⟩ := h.mem d hd
    obtain rfl : D' = D := by rw [e] at e'; simpa using e'.symm
    exact hb.block D' hlt

theorem Marks.cons {n₀ D : Nat} {w W : World} {ds : List Deferred} (h : Marks n₀ ds w) (hb : Below w.heap.size w W) (hD : w.heap.size ≤ D) (hn : n₀ ≤ w.heap.size) (hK : W.heap[D]? = some (.deferred (some []))) : Marks n₀ ({ target := .collected D, args := #[] } :: ds) W :=
  ⟨D, rfl, Nat.le_trans hn hD, hK, fun d hd => by obtain ⟨D', e, _, hlt⟩ := h.mem d hd; exact ⟨D', e, Nat.lt_of_lt_of_le hlt hD⟩, h.below hb⟩


/-- A function leaves over its marks; what abides the turning of a mark is still there. -/
theorem leaves_keep {F : Fence} {n : Nat} {P : Program} {fn : Func} {tmps : Array Value} {R : Ending → World → Prop} {n₀ : Nat} {Z : World → Prop}
    (hZ : ∀ V D o, Z V → n₀ ≤ D → V.heap[D]? = some o → o.isCells = false → Z (V.putObj D (.deferred none))) : ∀ (ds : List Deferred) (W : World), Marks n₀ ds W → Z W →
    (∀ W', Z W' → LeavesIn F n P fn tmps R [] .returning W') → LeavesInM F n P fn tmps R ds .returning W
  | [], W, _, hz, h => h W hz
  | d :: ds, W, hm, hz, h => by
    obtain ⟨D, rfl, h1, h2, h3, h4⟩ := hm
    refine ⟨by simp, .inl ⟨D, _, rfl, run_takeDeferred h2, leaves_keep hZ ds _ (h4.keep ?_) (hZ W D _ hz h1 h2 rfl) h⟩⟩
    rintro d hd D' rfl
    obtain ⟨D'', e, hlt⟩ := h3 _ hd
    obtain rfl : D'' = D' := by simpa using e.symm
    exact World.putObj_heap_other (by omega)

theorem Stay.of_kept {s B : Nat} {V V' : World} (hB : B < s) (h1 : KC B V V') (h2 : KeepsFrom s V V') : Stay s V V' := by
  refine ⟨h1.size, fun k hk hlt => ?_⟩
  obtain ⟨o, ho⟩ : ∃ o, V.heap[k]? = some o := ⟨V.heap[k], by simp [hlt]⟩
  rw [ho]
  cases hc : o.isCells with
  | true => exact h1.same k o ho hc (by omega)
  | false => exact h2.same k o hk ho hc
theorem Stay.grown {s n : Nat} {X V V' : World} {row : Option Nat} (h : Stay s X V) (hg : V.grownBy V' row) (hr : ∀ r, row = some r → n ≤ r) (hn : X.heap.size ≤ n) : Stay s X V' :=
  ⟨Nat.le_trans h.1 hg.size, fun k hk hlt => (hg.block k (Nat.lt_of_lt_of_le hlt h.1) (fun e => by have := hr k e.symm; omega)).trans (h.2 k hk hlt)⟩
theorem Stay.marks {s : Nat} {V V' : World} {ds : List Deferred} (h : Stay s V V') (hm : Marks s ds V) : Marks s ds V' :=
  hm.keep fun d hd D e => by
    obtain ⟨D', e', h1, hlt⟩ := hm.mem d hd
    obtain rfl : D' = D := by rw [e] at e'; simpa using e'.symm
    exact h.2 D' h1 hlt
theorem Stay.cell {s : Nat} {V V' : World} {p : Addr} {v : Value} (h : Stay s V V') (hs : s ≤ p.block) (hc : V.cell? p = some v) : V'.cell? p = some v :=
  (World.cell?_of_block (h.2 p.block hs (cell_lt hc))).trans hc
theorem Marks.push {s D : Nat} {w W : World} {ds : List Deferred} (h : Marks s ds w) (hb : Stay s w W) (hD : w.heap.size ≤ D) (hn : s ≤ w.heap.size) (hK : W.heap[D]? = some (.deferred (some []))) : Marks s ({ target := .collected D, args := #[] } :: ds) W :=
  ⟨D, rfl, Nat.le_trans hn hD, hK, fun d hd => by obtain ⟨D', e, _, hlt⟩ := h.mem d hd; exact ⟨D', e, Nat.lt_of_lt_of_le hlt hD⟩, hb.marks h⟩

def partRows : Nat → List Row
  | 0 => rows0
  | 1 => rows1
  | 2 => rows2
  | 3 => rows3
  | 4 => rows4
  | 5 => rows5
  | 6 => rows6
  | 7 => rows7
  | 8 => rows8
  | _ => rows9
def upTo (k : Nat) : List Row := (List.range k).flatMap partRows
theorem upTo_succ (k : Nat) : upTo (k + 1) = upTo k ++ partRows k := by simp [upTo, List.range_succ]
theorem part_tells : ∀ (k : Nat), k < 10 → ∀ (B : Nat) (w : World), B < w.heap.size → Tells Tryz.prog (93 + k) #[] (fun x : Row => #[x.val]) B (partRows k) w
  | 0, _ => tells31
  | 1, _ => tells32
  | 2, _ => tells33
  | 3, _ => tells34
  | 4, _ => tells35
  | 5, _ => tells36
  | 6, _ => tells37
  | 7, _ => tells38
  | 8, _ => tells39
  | 9, _ => tells40
  | n + 10, h => absurd h (by omega)
theorem part_enters : ∀ (k : Nat), k < 10 → ∀ args w, (callFunc (93 + k) args).run Tryz.prog w = .ok (.enter (93 + k) args) w
  | 0, _ => enters_of Tryz.func93 (by kernel_rfl) rfl
  | 1, _ => enters_of Tryz.func94 (by kernel_rfl) rfl
  | 2, _ => enters_of Tryz.func95 (by kernel_rfl) rfl
  | 3, _ => enters_of Tryz.func96 (by kernel_rfl) rfl
  | 4, _ => enters_of Tryz.func97 (by kernel_rfl) rfl
  | 5, _ => enters_of Tryz.func98 (by kernel_rfl) rfl
  | 6, _ => enters_of Tryz.func99 (by kernel_rfl) rfl
  | 7, _ => enters_of Tryz.func100 (by kernel_rfl) rfl
  | 8, _ => enters_of Tryz.func101 (by kernel_rfl) rfl
  | 9, _ => enters_of Tryz.func102 (by kernel_rfl) rfl
  | n + 10, h => absurd h (by omega)
theorem part_is : ∀ (k : Nat), k < 10 → ∃ T : Int, ∀ W : World, (Instr.index 101 (.agg partsC) (.int .i64 (k : Int))).run Tryz.prog W = .ok (.agg #[.int .u32 T, .func (.func (93 + k)) #[] #[]]) W
  | 0, _ => ⟨_, part_at 0⟩
  | 1, _ => ⟨_, part_at 1⟩
  | 2, _ => ⟨_, part_at 2⟩
  | 3, _ => ⟨_, part_at 3⟩
  | 4, _ => ⟨_, part_at 4⟩
  | 5, _ => ⟨_, part_at 5⟩
  | 6, _ => ⟨_, part_at 6⟩
  | 7, _ => ⟨_, part_at 7⟩
  | 8, _ => ⟨_, part_at 8⟩
  | 9, _ => ⟨_, part_at 9⟩
  | n + 10, h => absurd h (by omega)

/-- A frame of 18 slots by its slots. -/
theorem frame18 (t : Array Value) (h : t.size = 18) : ∃ u : Nat → Value, (∀ n, u n = t.toList.getD n undef) ∧ t = #[u 0, u 1, u 2, u 3, u 4, u 5, u 6, u 7, u 8, u 9, u 10, u 11, u 12, u 13, u 14, u 15, u 16, u 17] := by
  obtain ⟨l⟩ := t
  have hl : l.length = 18 := by simpa using h
  refine ⟨fun n => l.getD n undef, fun n => rfl, ?_⟩
  have e := Go.Deep.map_by_index l undef id
  rw [hl] at e
  have e2 : l = (List.range 18).map fun i => l.getD i undef := by simpa using e
  conv => lhs; rw [e2]
  rfl

/-- What an entry is of a row. -/
def Row.ent (r : Row) : Value := .agg #[.int .u32 (r.t : Int), .int .u32 (maskN r.t : Nat), .int .i64 r.v, .string r.s, .int .i64 r.l, .int .i64 r.m]
end Go.Proofs.YteglammdigmmfaaGreatDoor.Tb

/-
  DERIVED. A tag, looked up in two ways: plain functions.
-/
namespace Go.Proofs.YteglammdigmmfaaGreatDoor.Tb

/-- The last tag of a part. -/
def lastOf : Nat → Nat
  | 0 => 524287
  | 1 => 528383
  | 2 => 1048575
  | 3 => 1572863
  | 4 => 3276799
  | 5 => 4194303
  | 6 => 4194880
  | 7 => 4198399
  | 8 => 7340031
  | _ => 4294967295
def hit (t : Nat) (r : Row) : Bool := decide (t &&& maskN r.t = r.t)
/-- A tag lies in a part. -/
def InPart (t k : Nat) : Prop := k < 10 ∧ t ≤ lastOf k ∧ (∀ j, j < k → lastOf j < t)
def docF (t : Nat) : List Row → Option Row
  | [] => none
  | r :: rs => if hit t r then some r else if t < r.t then none else docF t rs
theorem hit_le {t : Nat} {r : Row} (h : hit t r = true) : r.t ≤ t := by
  have h1 : t &&& maskN r.t = r.t := by simpa [hit] using h
  rw [← h1]
  exact Nat.and_le_left
theorem hit_eq {t : Nat} {r : Row} (h : hit t r = true) (ht : t < 4294967296) (hm : r.t / 65536 ≠ 24576) : r.t = t := by
  have h1 : t &&& maskN r.t = r.t := by simpa [hit] using h
  rw [← h1]
  unfold maskN
  rw [if_neg hm, show (4294967295 : Nat) = 2 ^ 32 - 1 from rfl, Nat.and_two_pow_sub_one_eq_mod]
  exact Nat.mod_eq_of_lt (by simpa using ht)
theorem docF_find (t : Nat) : ∀ L : List Row, L.Pairwise (fun a b => a.t < b.t) → docF t L = L.find? (hit t)
  | [], _ => rfl
  | r :: rs, h => by
    rw [List.pairwise_cons] at h
    rw [docF, List.find?_cons]
    cases hr : hit t r with
    | true => rfl
    | false =>
      simp only [Bool.false_eq_true, if_false]
      by_cases hlt : t < r.t
      · rw [if_pos hlt]
        symm
        rw [List.find?_eq_none]
        intro x hx hh
        have := hit_le hh
        have := h.1 x hx
        omega
      · rw [if_neg hlt]
        exact docF_find t rs h.2
theorem rises : (upTo 10).Pairwise (fun a b => a.t < b.t) := by decide +kernel
def lowOf : Nat → Nat
  | 0 => 0
  | k + 1 => lastOf k + 1
theorem bounds_all : ∀ j : Fin 10, (partRows j.val).all (fun r => decide (lowOf j.val ≤ r.t) && decide (r.t ≤ lastOf j.val) && (decide (j.val = 9) || decide (r.t / 65536 ≠ 24576))) = true := by decide +kernel
theorem low_last : ∀ j k : Fin 10, j.val < k.val → lastOf j.val < lowOf k.val := by decide
theorem no_other {t k j : Nat} (ht : t < 4294967296) (hk : InPart t k) (hj : j < 10) (hne : j ≠ k) : (partRows j).find? (hit t) = none := by
  obtain ⟨k1, k2, k3⟩ := hk
  have hb := bounds_all ⟨j, hj⟩
  rw [List.find?_eq_none]
  intro r hr hh
  have h1 := List.all_eq_true.1 hb r hr
  simp only [Bool.and_eq_true, Bool.or_eq_true, decide_eq_true_eq] at h1
  obtain ⟨⟨h2, h3⟩, h4⟩ := h1
  have hle := hit_le hh
  by_cases h9 : j = 9
  · have h5 := low_last ⟨k, k1⟩ ⟨j, hj⟩ (by simp only; omega)
    simp only at h5
    omega
  · have he := hit_eq hh ht (h4.resolve_left h9)
    rcases Nat.lt_or_gt_of_ne hne with h | h
    · have := k3 j h
      omega
    · have h5 := low_last ⟨k, k1⟩ ⟨j, hj⟩ h
      simp only at h5
      omega
theorem find_upTo {t k : Nat} (ht : t < 4294967296) (hk : InPart t k) : ∀ n, n ≤ 10 → (upTo n).find? (hit t) = if k < n then (partRows k).find? (hit t) else none
  | 0, _ => by simp [upTo]
  | n + 1, hn => by
    rw [upTo_succ, List.find?_append, find_upTo ht hk n (by omega)]
    by_cases h1 : k < n
    · rw [if_pos h1, if_pos (by omega), no_other (j := n) ht hk (by omega) (by omega)]
      cases (partRows k).find? (hit t) <;> rfl
    · rw [if_neg h1]
      by_cases h2 : k = n
      · subst h2
        rw [if_pos (by omega)]
        rfl
      · rw [if_neg (by omega), no_other (j := n) ht hk (by omega) (by omega)]
        rfl
/-- Both ways to look a tag up find the same. -/
theorem find_both {t k : Nat} (ht : t < 4294967296) (hk : InPart t k) : docF t (upTo 10) = (partRows k).find? (hit t) := by
  rw [docF_find t _ rises, find_upTo ht hk 10 (Nat.le_refl _), if_pos hk.1]
end Go.Proofs.YteglammdigmmfaaGreatDoor.Tb

/-
  DERIVED. The part of the program's dictionary in which a tag lies.
-/
namespace Go.Proofs.YteglammdigmmfaaGreatDoor.Tb
open Go Go.Proofs Go.RowKit Go.Shelf

theorem parts_cells : ∀ (k : Fin 10), partsC[2 * k.val]? = some (.int .u32 ((lastOf k.val : Nat) : Int)) ∧ partsC[2 * k.val + 1]? = some (.func (.func (93 + k.val)) #[] #[])
  | ⟨0, _⟩ => ⟨rfl, rfl⟩
  | ⟨1, _⟩ => ⟨rfl, rfl⟩
  | ⟨2, _⟩ => ⟨rfl, rfl⟩
  | ⟨3, _⟩ => ⟨rfl, rfl⟩
  | ⟨4, _⟩ => ⟨rfl, rfl⟩
  | ⟨5, _⟩ => ⟨rfl, rfl⟩
  | ⟨6, _⟩ => ⟨rfl, rfl⟩
  | ⟨7, _⟩ => ⟨rfl, rfl⟩
  | ⟨8, _⟩ => ⟨rfl, rfl⟩
  | ⟨9, _⟩ => ⟨rfl, rfl⟩
  | ⟨n + 10, h⟩ => absurd h (by omega)
theorem part_cell {W : World} {B : Nat} (h : W.heap[B]? = some (.cells partsC 101 (0, 0))) (k : Nat) (hk : k < 10) :
    W.cell? ⟨B, k * 2, none⟩ = some (.int .u32 ((lastOf k : Nat) : Int)) ∧ W.cell? ⟨B, k * 2 + 1, none⟩ = some (.func (.func (93 + k)) #[] #[]) := by
  have h1 := parts_cells ⟨k, hk⟩
  simp only at h1
  rw [Nat.mul_comm] at h1
  exact ⟨(by simp [World.cell?, h, h1.1]), (by simp [World.cell?, h, h1.2])⟩

theorem alloc3 (w : World) (a b c : Obj) : (((w.alloc a).alloc b).alloc c).heap[w.heap.size + 1 + 1]? = some c := by
  have := World.alloc_heap_new ((w.alloc a).alloc b) c
  rwa [World.size_alloc, World.size_alloc] at this
theorem setRow3 (w : World) (a b : Obj) (c c' : Array Value) (t : TypeId) : (((w.alloc a).alloc b).alloc (.cells c t)).setRow (w.heap.size + 1 + 1) c' = ((w.alloc a).alloc b).alloc (.cells c' t) := by
  have := World.setRow_alloc_new ((w.alloc a).alloc b) c c' t
  rwa [World.size_alloc, World.size_alloc] at this

set_option maxRecDepth 100000 in
set_option maxHeartbeats 2000000 in
theorem partOf_any (w : World) (t : Nat) (ht : t < 4294967296) : Calls Tryz.prog 50 #[.int .u32 (t : Int)] w fun e w' => ∃ (k : Nat) (T : Int), e = .returned (.agg #[.int .u32 T, .func (.func (93 + k)) #[] #[]]) ∧ Hid (InPart t k) ∧ Below w.heap.size w w' := by
  have c46 := fun W => parts_any W
  obtain ⟨PC, hPC⟩ : ∃ PC, partsC = PC := ⟨_, rfl⟩
  have hcell : ∀ {W : World} {B : Nat}, W.heap[B]? = some (.cells PC 101 (0, 0)) → ∀ (k : Nat), k < 10 → W.cell? ⟨B, k * 2, none⟩ = some (.int .u32 ((lastOf k : Nat) : Int)) ∧ W.cell? ⟨B, k * 2 + 1, none⟩ = some (.func (.func (93 + k)) #[] #[]) := fun h => part_cell (by rw [hPC]; exact h)
  have HC : Hid _ := @hcell
  have hs1 : (Tryz.prog.info? 101).map (·.size) = some PC.size := by rw [← hPC]; kernel_rfl
  have hs2 : PC.all (·.oneCell') = true := by rw [← hPC]; kernel_rfl
  have hs3 : (20 : Nat) = PC.size := by rw [← hPC]; rfl
  rw [hPC] at c46
  clear hPC hcell
  go_enter Tryz.func50, Tryz.ntmps50
  go_wp2_with (first | (go_at_call 65; refine (c46 _).mono ?_; rintro e W1 ⟨rfl, rfl⟩) | (refine wpList_store_rowTo rfl 101 (.tmp 3) (.tmp 5) rfl rfl (w.heap.size + 1 + 1) PC rfl rfl 101 _ (alloc3 _ _ _ _) hs1 hs3 hs2 ?_))
  rw [setRow3]
  obtain ⟨V, hV⟩ : ∃ V, ((w.alloc (.cells #[.int .u32 0, .nilFunc] 84)).alloc (.cells PC 101)).alloc (.cells PC 101) = V := ⟨_, rfl⟩
  rw [hV]
  have hb1 : Below (w.heap.size + 1) (w.alloc (.cells #[.int .u32 0, .nilFunc] 84)) V := by rw [← hV]; exact ((Below.refl _ _).alloc (by simp) _).alloc (by simp) _
  have HB : Hid (Below w.heap.size w V) := ((Below.refl _ _).alloc (Nat.le_refl _) _).trans (hb1.mono (by omega))
  have hat := HC.out (W := V) (B := w.heap.size + 1 + 1) (by rw [← hV]; exact alloc3 _ _ _ _)
  have r0 : V.cell? ⟨w.heap.size, 0, none⟩ = some (.int .u32 0) := (hb1.cell (p := ⟨w.heap.size, 0, none⟩) (Nat.lt_succ_self _)).trans (by simp)
  have r1 : V.cell? ⟨w.heap.size, 1, none⟩ = some .nilFunc := (hb1.cell (p := ⟨w.heap.size, 1, none⟩) (Nat.lt_succ_self _)).trans (by simp)
  have rf : ∀ i, V.frozen? ⟨w.heap.size, i, none⟩ = false := fun i => (hb1.frozen (p := ⟨w.heap.size, i, none⟩) (Nat.lt_succ_self _)).trans (by simp)
  clear hV hs1 hs2 hs3 HC c46 hb1
  have HA : Hid _ := hat
  clear hat
  go_wp2
  go_loop [4] (fun x => ∃ k : Nat, x = .int .i64 (k : Int) ∧ k < 10 ∧ Hid (∀ j, j < k → lastOf j < t)) (fun x => 100 - (intOf x).toNat)
  case atStart => exact ⟨0, rfl, by omega, fun j hj => absurd hj (by omega)⟩
  case round =>
    obtain ⟨k, rfl, hk, HK⟩ := hrel
    obtain ⟨c0, c1⟩ := HA.out k hk
    by_cases hlt : lastOf k < t
    · have hkI : decide (((lastOf k : Nat) : Int) < (t : Int)) = true := by simp; omega
      have hk9 : k < 9 := by
        by_cases h9 : k < 9
        · exact h9
        · obtain rfl : k = 9 := by omega
          have : (4294967295 : Nat) < t := hlt
          omega
      have HK2 : Hid (∀ j, j < k + 1 → lastOf j < t) := by
        intro j hj
        by_cases h : j = k
        · rw [h]; exact hlt
        · exact HK.out j (by omega)
      generalize lastOf k = X at c0 hkI hlt
      go_wp2
      exact ⟨⟨k + 1, by simp, by omega, HK2⟩, by simp [intOf]; omega⟩
    · have hkI : decide (((lastOf k : Nat) : Int) < (t : Int)) = false := by simp; omega
      have HI : Hid (InPart t k) := ⟨hk, by omega, HK.out⟩
      generalize lastOf k = X at c0 hkI hlt
      go_wp2
      refine bodyPost_ret (v := .agg #[.int .u32 (X : Int), .func (.func (93 + k)) #[] #[]]) ?_ rfl ⟨k, ⟨X, rfl⟩, HI, (HB.out.setCell (p := ⟨w.heap.size, 0, none⟩) (Nat.le_refl _) _).setCell (p := ⟨w.heap.size, 1, none⟩) (Nat.le_refl _) _⟩
      have u0 : ((V.setCell ⟨w.heap.size, 0, none⟩ (.int .u32 (X : Int))).setCell ⟨w.heap.size, 1, none⟩ (.func (.func (93 + k)) #[] #[])).cell? ⟨w.heap.size, 0, none⟩ = some (.int .u32 (X : Int)) := (cell_set_ne (by decide)).trans (cell_set_eq r0)
      have u1 : ((V.setCell ⟨w.heap.size, 0, none⟩ (.int .u32 (X : Int))).setCell ⟨w.heap.size, 1, none⟩ (.func (.func (93 + k)) #[] #[])).cell? ⟨w.heap.size, 1, none⟩ = some (.func (.func (93 + k)) #[] #[]) := cell_set_eq ((cell_set_ne (by decide)).trans r1)
      simp only [results, Tryz.results50]
      simp [go_sem, u0, u1]
end Go.Proofs.YteglammdigmmfaaGreatDoor.Tb

/-
  DERIVED. The program's dictionary, gone through.
-/
namespace Go.Proofs.YteglammdigmmfaaGreatDoor.Tb
open Go Go.RowKit Go.Shelf
attribute [local go_sem] Oper.semAt_some

theorem upTo_prefix {k : Nat} (h : k ≤ 10) : upTo k <+: upTo 10 := by
  have : ∀ m, upTo k <+: upTo (k + m) := fun m => by
    induction m with
    | zero => exact List.prefix_refl _
    | succ m ih => rw [show k + (m + 1) = (k + m) + 1 by omega, upTo_succ]; exact ih.trans (List.prefix_append _ _)
  have h2 := this (10 - k)
  rwa [show k + (10 - k) = 10 by omega] at h2
theorem upTo_more {k : Nat} (h : k < 10) {pre : List Row} (hp : pre <+: partRows k) : upTo k ++ pre <+: upTo 10 := by
  refine List.IsPrefix.trans ?_ (upTo_prefix (k := k + 1) h)
  rw [upTo_succ]
  exact (List.prefix_append_right_inj _).2 hp

theorem grownBy_of_below {W W' : World} (h : Below W.heap.size W W') : W.grownBy W' none := ⟨h.os, h.tape, h.output, h.size, fun k hk _ => h.block k hk⟩

theorem two_ways {e : Ending} {p q : Prop} (h : (e = .returned (.bool true) ∧ p) ∨ (e = .returned (.bool false) ∧ q)) : ∃ v : Bool, e = .returned (.bool v) ∧ ((v = true ∧ p) ∨ (v = false ∧ q)) := by
  rcases h with ⟨h1, h2⟩ | ⟨h1, h2⟩
  · exact ⟨true, h1, .inl ⟨rfl, h2⟩⟩
  · exact ⟨false, h1, .inr ⟨rfl, h2⟩⟩

theorem kept_below (n B : Nat) {V V' : World} (h : Below V.heap.size V V') : KeepsFrom n V V' ∧ KC B V V' :=
  ⟨⟨h.size, fun k _ _ hk _ => (h.block k (Array.getElem?_eq_some_iff.1 hk).1).trans hk⟩, ⟨h.size, fun k _ hk _ _ => (h.block k (Array.getElem?_eq_some_iff.1 hk).1).trans hk⟩⟩

/-- Between two parts. -/
def InvE (PC : Array Value) (l s : Nat) (J : List Row → World → Prop) (a : Act) (V : World) : Prop :=
  ∃ k : Nat, k ≤ 10 ∧ a.tmps.size = 18 ∧ a.tmps.toList.getD 1 undef = .pointer (some ⟨s, 0, none⟩) ∧ a.tmps.toList.getD 5 undef = .agg PC ∧ a.tmps.toList.getD 6 undef = .int .i64 (k : Int) ∧
    J (upTo k) V ∧ V.cell? ⟨s, 0, none⟩ = some (.func (.yield l) #[] #[]) ∧ Marks s a.defers V

end Go.Proofs.YteglammdigmmfaaGreatDoor.Tb
