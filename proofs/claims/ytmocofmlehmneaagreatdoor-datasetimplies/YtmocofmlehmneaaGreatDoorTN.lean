
import Derived.Test.YtmocofmlehmneaaGreatDoorTM
import Derived.RangeFuncBound
import Derived.RangeFuncCalls
import Derived.Shelf.Abstract
import Derived.Shelf.RegionOpen
import Derived.OwnWalkIn
import Derived.TacticsInMore
import Derived.LoopNIn
import Derived.LoopIn
import Derived.Test.YtmocofmlehmneaaGreatDoorProg
/-
  DERIVED. Rows that are handed over one by one.
-/
namespace Go.Proofs.YtmocofmlehmneaaGreatDoor.Tb
open Go Go.RowKit Go.Shelf
attribute [local go_sem] Oper.semAt_some

/-- A row of the dictionary, as the program has it. -/
structure Row where
  t : Nat
  v : Int
  l : Int
  m : Int
  s : ByteArray
def Row.cs (r : Row) : List Value := [.int .u32 (r.t : Int), .int .i64 r.v, .int .i64 r.l, .int .i64 r.m, .string r.s]
def Row.val (r : Row) : Value := .agg #[.int .u32 (r.t : Int), .int .i64 r.v, .int .i64 r.l, .int .i64 r.m, .string r.s]
def rowCs (L : List Row) : Array Value := (L.flatMap Row.cs).toArray
theorem row_get : ∀ (L : List Row) (k : Nat) (r : Row), L[k]? = some r → ∀ j, j < 5 → (L.flatMap Row.cs)[5 * k + j]? = r.cs[j]?
  | [], k, r, h => by simp at h
  | x :: L, 0, r, h => by
    obtain rfl : x = r := by simpa using h
    intro j hj
    rw [List.flatMap_cons, List.getElem?_append_left (by simp [Row.cs]; omega)]
    simp
  | x :: L, k + 1, r, h => by
    intro j hj
    rw [List.flatMap_cons, List.getElem?_append_right (by simp [Row.cs]; omega)]
    have := row_get L k r (by simpa using h) j hj
    rw [← this]
    congr 1
    simp [Row.cs]
    omega

theorem cell_row {W : World} {b : Nat} {t : TypeId} {L : List Row} {k : Nat} {r : Row} (h : W.heap[b]? = some (.cells (rowCs L) t (0, 0))) (hk : L[k]? = some r) (j : Nat) (hj : j < 5) : W.cell? ⟨b, 5 * k + j, none⟩ = r.cs[j]? := by
  have := row_get L k r hk j hj
  simp [World.cell?, h, rowCs]
  exact this

set_option maxRecDepth 100000 in
set_option maxHeartbeats 2000000 in
theorem give_any (l B b s : Nat) (t : TypeId) (L : List Row) (hL : L.length ≤ 1000) (J Jx : List Row → World → Prop) (oJ : OwnFrom s J)
    (hY : ∀ pre x W1, J pre W1 → pre.length < L.length → YieldAt Fence.wide 0 Tryz.prog l #[x.val] W1 fun e W' =>
      (e = .returned (.bool true) ∧ J (pre ++ [x]) W' ∧ KC B W1 W' ∧ KeepsFrom s W1 W') ∨ (e = .returned (.bool false) ∧ Jx (pre ++ [x]) W' ∧ Stay s W1 W'))
    (W : World) (hb : W.heap[b]? = some (.cells (rowCs L) t (0, 0))) (hbB : b ≠ B) (h0 : J [] W) :
    CallsIn Fence.wide 0 Tryz.prog 128 #[.func (.yield l) #[] #[], .slice (some ⟨b, 0, none⟩) L.length L.length] W fun e W' => (∃ v, e = .returned v) ∧ (J L W' ∨ ∃ pre, pre <+: L ∧ Jx pre W') := by
  refine callsIn_of_wp Tryz.func128 rfl trivial ?_ rfl
  simp only [Tryz.ntmps128, List.size_toArray, List.length_cons, List.length_nil, Nat.reduceAdd, Nat.reduceSub, Array.replicate_succ, Array.replicate_zero, List.push_toArray, List.append_toArray, List.nil_append, List.cons_append]
  gi_wp2
  gi_loopw [8] (fun i wr => ∃ k : Nat, i = .int .i64 (k : Int) ∧ k ≤ L.length ∧ J (L.take k) wr ∧ wr.heap[b]? = some (.cells (rowCs L) t (0, 0)))
    (fun i _ => L.length - (intOf i).toNat)
  case atStart => exact ⟨0, rfl, Nat.zero_le _, h0, hb⟩
  case round =>
    obtain ⟨k, rfl, hk, hJ, hbr⟩ := hrel
    by_cases hlt : k < L.length
    · obtain ⟨x, hx⟩ : ∃ x, L[k]? = some x := ⟨L[k], by simp [hlt]⟩
      have hkI : decide ((k : Int) < (L.length : Int)) = true := by simp; omega
      have r0 : wr.cell? ⟨b, k * 5, none⟩ = some (.int .u32 (x.t : Int)) := by have := cell_row hbr hx 0 (by omega); rw [Nat.mul_comm] at this; exact this
      have r1 : wr.cell? ⟨b, k * 5 + 1, none⟩ = some (.int .i64 x.v) := by have := cell_row hbr hx 1 (by omega); rw [Nat.mul_comm] at this; exact this
      have r2 : wr.cell? ⟨b, k * 5 + 2, none⟩ = some (.int .i64 x.l) := by have := cell_row hbr hx 2 (by omega); rw [Nat.mul_comm] at this; exact this
      have r3 : wr.cell? ⟨b, k * 5 + 3, none⟩ = some (.int .i64 x.m) := by have := cell_row hbr hx 3 (by omega); rw [Nat.mul_comm] at this; exact this
      have r4 : wr.cell? ⟨b, k * 5 + 4, none⟩ = some (.string x.s) := by have := cell_row hbr hx 4 (by omega); rw [Nat.mul_comm] at this; exact this
      obtain ⟨fn, tmps, assign, body, hy, hR⟩ := hY (L.take k) x (wr.alloc (.cells #[.int .u32 (x.t : Int), .int .i64 x.v, .int .i64 x.l, .int .i64 x.m, .string x.s] 114)) (oJ.alloc _ hJ) (by simp; omega)
      unfold Row.val at hy
      clear hY
      gi_wp2
      refine ⟨rfl, hR.mono ?_⟩
      rintro e W3 (⟨rfl, hJ3, hc3, hk3⟩ | ⟨rfl, hx3, _⟩)
      · have hT : L.take k ++ [x] = L.take (k + 1) := by rw [List.take_add_one, hx]; rfl
        rw [hT] at hJ3
        have hb3 : W3.heap[b]? = some (.cells (rowCs L) t (0, 0)) := hc3.same b _ ((Below.heap_alloc wr _ b (Array.getElem?_eq_some_iff.1 hbr).1).trans hbr) rfl hbB
        gi_wp2
        go_roundw
        case rel => exact ⟨k + 1, by simp, by omega, hJ3, hb3⟩
        case measure => simp [intOf]; omega
      · gi_wp2
        refine bodyPost_ret (results_none rfl _ _ _) rfl ?_
        refine ⟨⟨_, rfl⟩, .inr ⟨L.take k ++ [x], ?_, hx3⟩⟩
        rw [show L.take k ++ [x] = L.take (k + 1) by rw [List.take_add_one, hx]; rfl]
        exact List.take_prefix _ _
    · have hkI : decide ((k : Int) < (L.length : Int)) = false := by simp; omega
      rw [List.take_of_length_le (by omega)] at hJ
      gi_wp2
      go_end0
      exact ⟨⟨_, rfl⟩, .inl hJ⟩
end Go.Proofs.YtmocofmlehmneaaGreatDoor.Tb
