import Derived.Test.YtfjcmniicbppdaaJ
/-
  DERIVED. NewFramer, Held of both; the document's framer in memory; what it does, pure.
-/
namespace Go.Proofs.Ytfjcmniicbppdaa
open Go Go.Proofs Go.RowKit Go.Deep

theorem newFramer_any (w : World) : Calls Try.prog 11 #[] w fun e w' => e = .returned (.pointer (some ⟨w.heap.size, 0, none⟩)) ∧ FR w' w.heap.size (.slice none 0 0) 1 [] false ∧ Below w.heap.size w w' ∧ w'.heap.size = w.heap.size + 1 := by
  go_enter Try.func11, Try.ntmps11
  go_wp2
  go_ret
  refine ⟨rfl, ⟨World.rowIs_alloc w #[.int .i64 1, .slice none 0 0, .bool false] 25 (fC 1 (.slice none 0 0) false) ?_, World.ownsRow_nil _ _ _ _, by simp, by simp⟩, (Below.refl _ _).alloc (Nat.le_refl _) _, by simp⟩
  intro i hi
  have hi' : i < 3 := hi
  rcases (show i = 0 ∨ i = 1 ∨ i = 2 by omega) with rfl | rfl | rfl <;> rfl

/-- How many bytes wait. -/
def hd (s n : Nat) : Nat := if s = 3 then n + 1 else n

set_option maxRecDepth 100000 in
theorem held_any {w : World} {q : Nat} {u : Value} {s : Nat} {tx : List Nat} {lg : Bool} (h : FR w q u (s : Int) tx lg) : Calls Try.prog 9 #[.pointer (some ⟨q, 0, none⟩)] w fun e w' => e = .returned (.int .i64 (hd s tx.length : Nat)) ∧ w = w' := by
  obtain ⟨c0, c1, c2, cf⟩ := rowIs_cells h.row
  have hl := h.len
  obtain ⟨ao, cap, rfl⟩ := own_slice h.own
  clear h
  unfold hd
  by_cases hs : s = 3
  · subst hs
    rw [if_pos rfl]
    go_enter Try.func9, Try.ntmps9
    go_wp2
    go_ret
    exact ⟨by congr 2, rfl⟩
  · rw [if_neg hs]
    have e1 : ((s : Int) == 3) = false := by simp; omega
    go_enter Try.func9, Try.ntmps9
    go_wp2
    go_ret
    exact ⟨rfl, rfl⟩

/-- The four cells of the document's framer. -/
def rC (s : Nat) (v : Value) : Nat → Value := fun i => if i = 0 then .bool true else if i = 1 then .bool (decide (s ≠ 1)) else if i = 2 then v else .bool (decide (s = 3))

structure RF (w : World) (q : Nat) (v : Value) (s : Nat) (T : List Nat) : Prop where
  row : w.rowIs q 59 4 (rC s v)
  own : w.ownsRow (q + 1) 5 1 v T.length (u8s T)
  byt : ∀ x ∈ T, x < 256

theorem RF.cells {w : World} {q : Nat} {v : Value} {s : Nat} {T : List Nat} (h : RF w q v s T) :
    w.cell? ⟨q, 0, none⟩ = some (.bool true) ∧ w.cell? ⟨q, 1, none⟩ = some (.bool (decide (s ≠ 1))) ∧ w.cell? ⟨q, 2, none⟩ = some v ∧ w.cell? ⟨q, 3, none⟩ = some (.bool (decide (s = 3))) ∧ ∀ i, w.frozen? ⟨q, i, none⟩ = false :=
  ⟨h.row.cell (i := 0) (by omega), h.row.cell (i := 1) (by omega), h.row.cell (i := 2) (by omega), h.row.cell (i := 3) (by omega), h.row.frozen⟩
theorem RF.of {w w' : World} {q : Nat} {v : Value} {s : Nat} {T : List Nat} (h : RF w q v s T) (hb : ∀ j, j < w.heap.size → FS q v j → w'.heap[j]? = w.heap[j]?) : RF w' q v s T :=
  ⟨h.row.of_block (hb q h.row.lt (.inl rfl)), owns_of h.own (fun g hg => hb g (h.own.lt g hg).2 (.inr hg)), h.byt⟩

theorem newRef_any (w : World) : Calls Try.prog 13 #[] w fun e w' => e = .returned (.pointer (some ⟨w.heap.size, 0, none⟩)) ∧ RF w' w.heap.size (.slice none 0 0) 1 [] ∧ Below w.heap.size w w' ∧ w'.heap.size = w.heap.size + 1 := by
  go_enter Try.func13, Try.ntmps13
  go_wp2
  go_ret
  refine ⟨rfl, ⟨World.rowIs_alloc w #[.bool true, .bool false, .slice none 0 0, .bool false] 59 (rC 1 (.slice none 0 0)) ?_, World.ownsRow_nil _ _ _ _, by simp⟩, (Below.refl _ _).alloc (Nat.le_refl _) _, by simp⟩
  intro i hi
  have hi' : i < 4 := hi
  rcases (show i = 0 ∨ i = 1 ∨ i = 2 ∨ i = 3 by omega) with rfl | rfl | rfl | rfl <;> rfl

def mn (n : Nat) : Nat := if 16384 < n then 16384 else n

set_option maxRecDepth 100000 in
theorem heldR_any {w : World} {q : Nat} {v : Value} {s : Nat} {T : List Nat} (h : RF w q v s T) (hs : s = 1 ∧ T = [] ∨ s = 2 ∨ s = 3) (hl : T.length ≤ 16777216) : Calls Try.prog 18 #[.pointer (some ⟨q, 0, none⟩)] w fun e w' => e = .returned (.int .i64 (hd s (mn T.length) : Nat)) ∧ w = w' := by
  obtain ⟨c0, c1, c2, c3, cf⟩ := h.cells
  obtain ⟨ao, cap, rfl⟩ := own_slice h.own
  clear h
  unfold hd mn
  rcases hs with ⟨rfl, rfl⟩ | rfl | rfl
  · rw [show decide ((1 : Nat) ≠ 1) = false from rfl] at c1
    go_enter Try.func18, Try.ntmps18
    go_wp2
    go_ret
    exact ⟨rfl, rfl⟩
  · rw [show decide ((2 : Nat) ≠ 1) = true from rfl] at c1
    rw [show decide ((2 : Nat) = 3) = false from rfl] at c3
    by_cases hg : 16384 < T.length
    · rw [if_pos hg]
      have e1 : decide ((16384 : Int) < (T.length : Int)) = true := by simp; omega
      have e2 : ((T.length : Int) > 16384) := by omega
      go_enter Try.func18, Try.ntmps18
      go_wp2
      go_ret
      exact ⟨rfl, rfl⟩
    · rw [if_neg hg]
      have e2 : ¬ ((T.length : Int) > 16384) := by omega
      have e1 : decide ((16384 : Int) < (T.length : Int)) = false := by simp; omega
      go_enter Try.func18, Try.ntmps18
      go_wp2
      go_ret
      exact ⟨rfl, rfl⟩
  · rw [show decide ((3 : Nat) ≠ 1) = true from rfl] at c1
    rw [show decide ((3 : Nat) = 3) = true from rfl] at c3
    by_cases hg : 16384 < T.length
    · rw [if_pos hg]
      have e1 : decide ((16384 : Int) < (T.length : Int)) = true := by simp; omega
      have e2 : ((T.length : Int) > 16384) := by omega
      go_enter Try.func18, Try.ntmps18
      go_wp2
      go_ret
      exact ⟨rfl, rfl⟩
    · rw [if_neg hg]
      have e2 : ¬ ((T.length : Int) > 16384) := by omega
      have e1 : decide ((16384 : Int) < (T.length : Int)) = false := by simp; omega
      go_enter Try.func18, Try.ntmps18
      go_wp2
      go_ret
      exact ⟨by congr 2, rfl⟩

/-- The document's framer, pure: what it is at, its whole text. -/
abbrev RSt := Nat × List Nat
def rlk (c : Nat) (T : List Nat) : RSt := if c = 11 then (2, []) else if c = 28 then (3, T) else (2, T ++ [c])
def rsp (c : Nat) (s : RSt) : RSt :=
  if s.1 = 1 then (if c = 11 then (2, []) else (1, []))
  else if s.1 = 2 then rlk c s.2
  else if c = 13 then (1, []) else rlk c (s.2 ++ [28])
def ab (s : RSt) : FSt := (s.1, s.2.take 16384, decide (16384 < s.2.length))
def rtk : List Nat → RSt → Fs → RSt × Fs
  | [], s, fs => (s, fs)
  | c :: r, s, fs => rtk r (rsp c s) (fs ++ ot c (ab s))

theorem kpT_take (T : List Nat) (c : Nat) : kpT (T.take 16384) c = (T ++ [c]).take 16384 := by
  unfold kpT
  rw [List.length_take]
  by_cases h : 16384 ≤ T.length
  · rw [if_pos (by omega), List.take_append_of_le_length h]
  · rw [if_neg (by omega), List.take_of_length_le (by omega), List.take_of_length_le (by simp; omega)]
theorem kpL_take (T : List Nat) (c : Nat) : kpL (T.take 16384) (decide (16384 < T.length)) = decide (16384 < (T ++ [c]).length) := by
  unfold kpL
  rw [List.length_take, List.length_append, List.length_singleton]
  by_cases h : 16384 ≤ T.length
  · rw [if_pos (by omega)]
    symm; simp; omega
  · rw [if_neg (by omega)]
    congr 1
    simp
    omega
theorem ab_lk (c : Nat) (T : List Nat) : ab (rlk c T) = lk c (T.take 16384) (decide (16384 < T.length)) := by
  unfold rlk lk
  split
  · rfl
  · split
    · rfl
    · rw [kpT_take, kpL_take T c]; rfl
theorem ab_sp (c : Nat) (s : RSt) : ab (rsp c s) = sp c (ab s) := by
  obtain ⟨s, T⟩ := s
  unfold rsp sp
  show ab (if s = 1 then _ else _) = if s = 1 then _ else _
  split
  · split <;> rfl
  · show ab (if s = 2 then _ else _) = if s = 2 then _ else _
    split
    · exact ab_lk c T
    · split
      · rfl
      · rw [ab_lk]
        show _ = lk c (kpT (T.take 16384) 28) (kpL (T.take 16384) (decide (16384 < T.length)))
        rw [kpT_take, kpL_take T 28]
theorem rtk_tk (bs : List Nat) : ∀ (s : RSt) (fs : Fs), tk bs (ab s) fs = (ab (rtk bs s fs).1, (rtk bs s fs).2) := by
  induction bs with
  | nil => intro s fs; rfl
  | cons c r ih => intro s fs; show tk r (sp c (ab s)) _ = _; rw [← ab_sp, ih]; rfl
end Go.Proofs.Ytfjcmniicbppdaa
