import Derived.Test.YtdggplhkeekdjaaGreatDoorWA
import Derived.Lib.ConvBytes
import Derived.Laws.IdiomStrings
import Derived.Deep.RegionHeld3
import Derived.Deep.LoopGhost
import Derived.Deep.AppendLies
import Derived.Test.YtdggplhkeekdjaaGreatDoorRB
import Derived.Deep.WholeRow
import Derived.Great.BuildSlice
import Derived.Laws.EntriesVeiled
/-
  DERIVED. The text that marks a place.
-/
namespace Go.Proofs.YtdggplhkeekdjaaGreatDoor.Sp
open Go Go.Proofs Go.RowKit

def mkL (i k : Nat) : List UInt8 := [UInt8.ofNat i, UInt8.ofNat k, UInt8.ofNat (k / 256), 33]
def mkB (i k : Nat) : ByteArray := ⟨(mkL i k).toArray⟩
def mkc (i k : Nat) : Array Value := #[.int .u8 (i : Int), .int .u8 ((k : Int) % 256), .int .u8 ((k : Int) / 256 % 256), .int .u8 33]

end Go.Proofs.YtdggplhkeekdjaaGreatDoor.Sp

/-
  DERIVED. Rows of bytes that share nothing: an append that leaves what it was called with as it was; rows written over.
-/
namespace Go.Proofs.YtdggplhkeekdjaaGreatDoor.Sp
open Go Go.Proofs Go.RowKit
open Wk (cell_lt own_keep Stop)

theorem info5 : (Tryz.prog.info? 9).map (fun i => (i.zero, i.size, i.bytes)) = some (some (.string { data := #[] }), 1, 16) := by kernel_rfl
def u8s (bs : List ByteArray) : List Value := bs.map Value.string
theorem u8s_length (bs : List ByteArray) : (u8s bs).length = bs.length := by simp [u8s]
theorem u8s_get (bs : List ByteArray) (k : Nat) (hk : k < bs.length) : (u8s bs)[k]? = some (.string (bs.getD k ByteArray.empty)) := by
  simp [u8s, List.getElem?_eq_getElem hk]
theorem u8s_append (a b : List ByteArray) : u8s (a ++ b) = u8s a ++ u8s b := by simp [u8s]
theorem heap_alloc_old (w : World) (o : Obj) {k : Nat} (h : k < w.heap.size) : (w.alloc o).heap[k]? = w.heap[k]? := Wk.heap_old w o h
theorem heap_alloc_new (w : World) (o : Obj) : (w.alloc o).heap[w.heap.size]? = some o := Wk.heap_new w o

theorem u8s_set (l : List ByteArray) (k : Nat) (b : ByteArray) : (u8s l).set k (.string b) = u8s (l.set k b) := by
  unfold u8s
  rw [List.map_set]
theorem cell_set_off {W : World} {b i c j : Nat} {v : Value} (h : b ≠ c) : (W.setCell ⟨b, i, none⟩ v).cell? ⟨c, j, none⟩ = W.cell? ⟨c, j, none⟩ := World.cell?_of_block (Below.heap_setCell _ _ _ c (fun e => h e.symm))
end Go.Proofs.YtdggplhkeekdjaaGreatDoor.Sp

/-
  DERIVED. Texts that lie in a row; that two rows say the same.
-/
namespace Go.Proofs.YtdggplhkeekdjaaGreatDoor.Sp
open Go Go.Proofs Go.RowKit
open Wk (cell_lt own_keep Stop)

/-- These texts lie there. -/
structure TxAt (w : World) (v : Value) (xs : List ByteArray) : Prop where
  form : ∃ a cap, v = .slice a xs.length cap ∧ xs.length ≤ cap ∧ (0 < xs.length → ∃ b o, a = some ⟨b, o, none⟩ ∧ ∀ j (h : j < xs.length), w.cell? ⟨b, o + j, none⟩ = some (.string xs[j]))
theorem TxAt.on {w w' : World} {v : Value} {xs : List ByteArray} (h : TxAt w v xs) (hb : Below w.heap.size w w') : TxAt w' v xs := by
  obtain ⟨a, cap, h1, h2, h3⟩ := h.form
  refine ⟨a, cap, h1, h2, fun hp => ?_⟩
  obtain ⟨b, o, h4, h5⟩ := h3 hp
  exact ⟨b, o, h4, fun j hj => (World.cell?_of_block (hb.block b (cell_lt (h5 j hj)))).trans (h5 j hj)⟩
theorem u8s_getE (xs : List ByteArray) (j : Nat) (h : j < xs.length) : (u8s xs)[j]? = some (.string xs[j]) := by simp [u8s, h]
/-- A row of our own is one of them. -/
theorem TxAt.own {w : World} {base : Nat} {v : Value} {n : Nat} {xs : List ByteArray} (h : w.ownsRow base 9 1 v n (u8s xs)) : TxAt w v xs := by
  have hl : n = xs.length := by have := h.1; rw [u8s_length] at this; omega
  subst hl
  by_cases h0 : 0 < xs.length
  · obtain ⟨g, cap, rfl, hg, hc⟩ := h.form h0
    refine ⟨_, cap, rfl, Wk.own_cap h, fun _ => ⟨g, 0, rfl, fun j hj => ?_⟩⟩
    rw [Nat.zero_add, h.cellAt j (by omega), u8s_getE _ _ hj]
  · rcases h.2 with ⟨h1, h2⟩ | ⟨g, cap, cur, rfl, _⟩
    · refine ⟨none, 0, ?_, by omega, fun q => absurd q h0⟩
      rw [h1]; congr 1; omega
    · exact ⟨_, cap, rfl, Wk.own_cap h, fun q => absurd q h0⟩

end Go.Proofs.YtdggplhkeekdjaaGreatDoor.Sp

/-
  DERIVED. The program's table of VRs.
-/
namespace Go.Proofs.YtdggplhkeekdjaaGreatDoor.Rp
open Go Go.Proofs Go.RowKit

/-- A VR's row, as the program has it: the place in the table is the VR's number. -/
def rowOf : Nat → List Value
  | 1 => [.string ⟨#[65, 69]⟩, .int .u8 32, .int .i64 1, .int .i64 16, .bool true, .bool false, .bool true, .bool false, (.func (.func 116) #[] #[]), .nilFunc]
  | 2 => [.string ⟨#[65, 83]⟩, .int .u8 32, .int .i64 1, .int .i64 4, .bool true, .bool false, .bool true, .bool false, (.func (.func 117) #[] #[]), (.func (.func 118) #[] #[])]
  | 3 => [.string ⟨#[65, 84]⟩, .int .u8 0, .int .i64 4, .int .i64 4, .bool false, .bool false, .bool true, .bool false, .nilFunc, .nilFunc]
  | 4 => [.string ⟨#[67, 83]⟩, .int .u8 32, .int .i64 1, .int .i64 16, .bool true, .bool false, .bool true, .bool false, (.func (.func 119) #[] #[]), .nilFunc]
  | 5 => [.string ⟨#[68, 65]⟩, .int .u8 32, .int .i64 1, .int .i64 8, .bool true, .bool false, .bool true, .bool false, (.func (.func 120) #[] #[]), (.func (.func 121) #[] #[])]
  | 6 => [.string ⟨#[68, 83]⟩, .int .u8 32, .int .i64 1, .int .i64 16, .bool true, .bool false, .bool true, .bool false, (.func (.func 122) #[] #[]), (.func (.func 123) #[] #[])]
  | 7 => [.string ⟨#[68, 84]⟩, .int .u8 32, .int .i64 1, .int .i64 26, .bool true, .bool false, .bool true, .bool false, (.func (.func 124) #[] #[]), (.func (.func 125) #[] #[])]
  | 8 => [.string ⟨#[70, 68]⟩, .int .u8 0, .int .i64 8, .int .i64 8, .bool false, .bool false, .bool true, .bool false, .nilFunc, .nilFunc]
  | 9 => [.string ⟨#[70, 76]⟩, .int .u8 0, .int .i64 4, .int .i64 4, .bool false, .bool false, .bool true, .bool false, .nilFunc, .nilFunc]
  | 10 => [.string ⟨#[73, 83]⟩, .int .u8 32, .int .i64 1, .int .i64 12, .bool true, .bool false, .bool true, .bool false, (.func (.func 126) #[] #[]), (.func (.func 127) #[] #[])]
  | 11 => [.string ⟨#[76, 79]⟩, .int .u8 32, .int .i64 1, .int .i64 64, .bool true, .bool true, .bool true, .bool false, (.func (.func 128) #[] #[]), .nilFunc]
  | 12 => [.string ⟨#[76, 84]⟩, .int .u8 32, .int .i64 1, .int .i64 10240, .bool true, .bool true, .bool false, .bool false, (.func (.func 129) #[] #[]), .nilFunc]
  | 13 => [.string ⟨#[79, 66]⟩, .int .u8 0, .int .i64 1, .int .i64 0, .bool false, .bool false, .bool false, .bool true, .nilFunc, .nilFunc]
  | 14 => [.string ⟨#[79, 87]⟩, .int .u8 0, .int .i64 2, .int .i64 0, .bool false, .bool false, .bool false, .bool true, .nilFunc, .nilFunc]
  | 15 => [.string ⟨#[80, 78]⟩, .int .u8 32, .int .i64 1, .int .i64 64, .bool true, .bool true, .bool true, .bool false, (.func (.func 128) #[] #[]), (.func (.func 130) #[] #[])]
  | 16 => [.string ⟨#[83, 72]⟩, .int .u8 32, .int .i64 1, .int .i64 16, .bool true, .bool true, .bool true, .bool false, (.func (.func 128) #[] #[]), .nilFunc]
  | 17 => [.string ⟨#[83, 76]⟩, .int .u8 0, .int .i64 4, .int .i64 4, .bool false, .bool false, .bool true, .bool false, .nilFunc, .nilFunc]
  | 18 => [.string ⟨#[83, 81]⟩, .int .u8 0, .int .i64 1, .int .i64 0, .bool false, .bool false, .bool false, .bool true, .nilFunc, .nilFunc]
  | 19 => [.string ⟨#[83, 83]⟩, .int .u8 0, .int .i64 2, .int .i64 2, .bool false, .bool false, .bool true, .bool false, .nilFunc, .nilFunc]
  | 20 => [.string ⟨#[83, 84]⟩, .int .u8 32, .int .i64 1, .int .i64 1024, .bool true, .bool true, .bool false, .bool false, (.func (.func 129) #[] #[]), .nilFunc]
  | 21 => [.string ⟨#[84, 77]⟩, .int .u8 32, .int .i64 1, .int .i64 14, .bool true, .bool false, .bool true, .bool false, (.func (.func 131) #[] #[]), (.func (.func 132) #[] #[])]
  | 22 => [.string ⟨#[85, 67]⟩, .int .u8 32, .int .i64 1, .int .i64 0, .bool true, .bool true, .bool true, .bool true, (.func (.func 128) #[] #[]), .nilFunc]
  | 23 => [.string ⟨#[85, 73]⟩, .int .u8 0, .int .i64 1, .int .i64 64, .bool true, .bool false, .bool true, .bool false, (.func (.func 131) #[] #[]), (.func (.func 133) #[] #[])]
  | 24 => [.string ⟨#[85, 76]⟩, .int .u8 0, .int .i64 4, .int .i64 4, .bool false, .bool false, .bool true, .bool false, .nilFunc, .nilFunc]
  | 25 => [.string ⟨#[85, 78]⟩, .int .u8 0, .int .i64 1, .int .i64 0, .bool false, .bool false, .bool false, .bool true, .nilFunc, .nilFunc]
  | 26 => [.string ⟨#[85, 82]⟩, .int .u8 32, .int .i64 1, .int .i64 0, .bool true, .bool false, .bool false, .bool true, (.func (.func 134) #[] #[]), .nilFunc]
  | 27 => [.string ⟨#[85, 83]⟩, .int .u8 0, .int .i64 2, .int .i64 2, .bool false, .bool false, .bool true, .bool false, .nilFunc, .nilFunc]
  | 28 => [.string ⟨#[85, 84]⟩, .int .u8 32, .int .i64 1, .int .i64 0, .bool true, .bool true, .bool false, .bool true, (.func (.func 129) #[] #[]), .nilFunc]
  | _ => [.string ⟨#[]⟩, .int .u8 0, .int .i64 0, .int .i64 0, .bool false, .bool false, .bool false, .bool false, .nilFunc, .nilFunc]

/-- The whole table, row behind row. -/
def repsC : Array Value := ((List.range 29).flatMap rowOf).toArray

set_option maxRecDepth 100000 in
set_option maxHeartbeats 4000000 in
theorem reps_any (w : World) : Calls Tryz.prog 109 #[] w fun e w' => e = .returned (.agg repsC) ∧ w.alloc (.cells repsC 197) = w' := by
  go_enter Tryz.func109, Tryz.ntmps109
  go_wp2_with (refine wpList_store_rowTo rfl 197 (.tmp 0) (.tmp 57) rfl rfl w.heap.size repsC rfl (by kernel_rfl) 197 Tryz.zeroCells197 (heap_alloc_last w _) (by kernel_rfl) (by kernel_rfl) (by kernel_rfl) ?_)
  rw [World.setRow_alloc_new]
  refine bodyPost_ret (v := .agg repsC) ?_ rfl ⟨rfl, rfl⟩
  exact results_cell_row rfl _ _ w.heap.size 197 repsC (0, 0) _ rfl (heap_alloc_last w _) Tryz.underlying197 rfl (by kernel_rfl)
end Go.Proofs.YtdggplhkeekdjaaGreatDoor.Rp

/-
  DERIVED. A VR's row, looked up.
-/
namespace Go.Proofs.YtdggplhkeekdjaaGreatDoor.Rp
open Go Go.Proofs Go.RowKit

set_option maxRecDepth 100000 in
theorem idx_at : ∀ (v : Fin 29) (W : World), (Instr.index 197 (.agg repsC) (.int .i64 (v.val : Int))).run Tryz.prog W = .ok (.agg (rowOf v.val).toArray) W
  | ⟨0, _⟩ => fun _ => by kernel_rfl | ⟨1, _⟩ => fun _ => by kernel_rfl | ⟨2, _⟩ => fun _ => by kernel_rfl | ⟨3, _⟩ => fun _ => by kernel_rfl | ⟨4, _⟩ => fun _ => by kernel_rfl | ⟨5, _⟩ => fun _ => by kernel_rfl
  | ⟨6, _⟩ => fun _ => by kernel_rfl | ⟨7, _⟩ => fun _ => by kernel_rfl | ⟨8, _⟩ => fun _ => by kernel_rfl | ⟨9, _⟩ => fun _ => by kernel_rfl | ⟨10, _⟩ => fun _ => by kernel_rfl | ⟨11, _⟩ => fun _ => by kernel_rfl
  | ⟨12, _⟩ => fun _ => by kernel_rfl | ⟨13, _⟩ => fun _ => by kernel_rfl | ⟨14, _⟩ => fun _ => by kernel_rfl | ⟨15, _⟩ => fun _ => by kernel_rfl | ⟨16, _⟩ => fun _ => by kernel_rfl | ⟨17, _⟩ => fun _ => by kernel_rfl
  | ⟨18, _⟩ => fun _ => by kernel_rfl | ⟨19, _⟩ => fun _ => by kernel_rfl | ⟨20, _⟩ => fun _ => by kernel_rfl | ⟨21, _⟩ => fun _ => by kernel_rfl | ⟨22, _⟩ => fun _ => by kernel_rfl | ⟨23, _⟩ => fun _ => by kernel_rfl
  | ⟨24, _⟩ => fun _ => by kernel_rfl | ⟨25, _⟩ => fun _ => by kernel_rfl | ⟨26, _⟩ => fun _ => by kernel_rfl | ⟨27, _⟩ => fun _ => by kernel_rfl | ⟨28, _⟩ => fun _ => by kernel_rfl
  | ⟨n + 29, h⟩ => absurd h (by omega)

/-- What stands in a row. -/
def strV : Value → ByteArray
  | .string s => s
  | _ => ⟨#[]⟩
def intV : Value → Int
  | .int _ i => i
  | _ => 0
def boolV : Value → Bool
  | .bool b => b
  | _ => false
def nm (k : Nat) : ByteArray := strV ((rowOf k).getD 0 undef)
def pd (k : Nat) : Int := intV ((rowOf k).getD 1 undef)
def un (k : Nat) : Int := intV ((rowOf k).getD 2 undef)
def mo (k : Nat) : Int := intV ((rowOf k).getD 3 undef)
def tx (k : Nat) : Bool := boolV ((rowOf k).getD 4 undef)
def ch (k : Nat) : Bool := boolV ((rowOf k).getD 5 undef)
def mu (k : Nat) : Bool := boolV ((rowOf k).getD 6 undef)
def lo (k : Nat) : Bool := boolV ((rowOf k).getD 7 undef)

/-- A function of the program, or none. -/
def FunV (v : Value) : Prop := v = .nilFunc ∨ ∃ j, v = .func (.func j) #[] #[]

theorem row_shape : ∀ (v : Fin 29), ∃ cf ff, FunV cf ∧ FunV ff ∧ rowOf v.val = [.string (nm v.val), .int .u8 (pd v.val), .int .i64 (un v.val), .int .i64 (mo v.val), .bool (tx v.val), .bool (ch v.val), .bool (mu v.val), .bool (lo v.val), cf, ff]
  | ⟨0, _⟩ => ⟨_, _, by unfold FunV; simp, by unfold FunV; simp, rfl⟩ | ⟨1, _⟩ => ⟨_, _, by unfold FunV; simp, by unfold FunV; simp, rfl⟩ | ⟨2, _⟩ => ⟨_, _, by unfold FunV; simp, by unfold FunV; simp, rfl⟩ | ⟨3, _⟩ => ⟨_, _, by unfold FunV; simp, by unfold FunV; simp, rfl⟩ | ⟨4, _⟩ => ⟨_, _, by unfold FunV; simp, by unfold FunV; simp, rfl⟩ | ⟨5, _⟩ => ⟨_, _, by unfold FunV; simp, by unfold FunV; simp, rfl⟩
  | ⟨6, _⟩ => ⟨_, _, by unfold FunV; simp, by unfold FunV; simp, rfl⟩ | ⟨7, _⟩ => ⟨_, _, by unfold FunV; simp, by unfold FunV; simp, rfl⟩ | ⟨8, _⟩ => ⟨_, _, by unfold FunV; simp, by unfold FunV; simp, rfl⟩ | ⟨9, _⟩ => ⟨_, _, by unfold FunV; simp, by unfold FunV; simp, rfl⟩ | ⟨10, _⟩ => ⟨_, _, by unfold FunV; simp, by unfold FunV; simp, rfl⟩ | ⟨11, _⟩ => ⟨_, _, by unfold FunV; simp, by unfold FunV; simp, rfl⟩
  | ⟨12, _⟩ => ⟨_, _, by unfold FunV; simp, by unfold FunV; simp, rfl⟩ | ⟨13, _⟩ => ⟨_, _, by unfold FunV; simp, by unfold FunV; simp, rfl⟩ | ⟨14, _⟩ => ⟨_, _, by unfold FunV; simp, by unfold FunV; simp, rfl⟩ | ⟨15, _⟩ => ⟨_, _, by unfold FunV; simp, by unfold FunV; simp, rfl⟩ | ⟨16, _⟩ => ⟨_, _, by unfold FunV; simp, by unfold FunV; simp, rfl⟩ | ⟨17, _⟩ => ⟨_, _, by unfold FunV; simp, by unfold FunV; simp, rfl⟩
  | ⟨18, _⟩ => ⟨_, _, by unfold FunV; simp, by unfold FunV; simp, rfl⟩ | ⟨19, _⟩ => ⟨_, _, by unfold FunV; simp, by unfold FunV; simp, rfl⟩ | ⟨20, _⟩ => ⟨_, _, by unfold FunV; simp, by unfold FunV; simp, rfl⟩ | ⟨21, _⟩ => ⟨_, _, by unfold FunV; simp, by unfold FunV; simp, rfl⟩ | ⟨22, _⟩ => ⟨_, _, by unfold FunV; simp, by unfold FunV; simp, rfl⟩ | ⟨23, _⟩ => ⟨_, _, by unfold FunV; simp, by unfold FunV; simp, rfl⟩
  | ⟨24, _⟩ => ⟨_, _, by unfold FunV; simp, by unfold FunV; simp, rfl⟩ | ⟨25, _⟩ => ⟨_, _, by unfold FunV; simp, by unfold FunV; simp, rfl⟩ | ⟨26, _⟩ => ⟨_, _, by unfold FunV; simp, by unfold FunV; simp, rfl⟩ | ⟨27, _⟩ => ⟨_, _, by unfold FunV; simp, by unfold FunV; simp, rfl⟩ | ⟨28, _⟩ => ⟨_, _, by unfold FunV; simp, by unfold FunV; simp, rfl⟩
  | ⟨n + 29, h⟩ => absurd h (by omega)

/-- Which row a VR has; the first one is nobody's. -/
def vn (v : Int) : Nat := if 1 ≤ v ∧ v ≤ 28 then v.toNat else 0

theorem vn_lt (v : Int) : vn v < 29 := by unfold vn; split <;> omega

theorem rep_shape (v : Int) : ∃ cf ff, FunV cf ∧ FunV ff ∧ rowOf (vn v) = [.string (nm (vn v)), .int .u8 (pd (vn v)), .int .i64 (un (vn v)), .int .i64 (mo (vn v)), .bool (tx (vn v)), .bool (ch (vn v)), .bool (mu (vn v)), .bool (lo (vn v)), cf, ff] := row_shape ⟨vn v, vn_lt v⟩

set_option maxRecDepth 100000 in
set_option maxHeartbeats 1000000 in
theorem repOf_any (w : World) (v : Int) : Calls Tryz.prog 101 #[.int .i64 v] w fun e w' => e = .returned (.tuple #[.agg (rowOf (vn v)).toArray, .bool (decide (1 ≤ v ∧ v ≤ 28))]) ∧ Below w.heap.size w w' := by
  by_cases hv : 1 ≤ v ∧ v ≤ 28
  · obtain ⟨hv1, hv2⟩ := hv
    have hix := idx_at ⟨vn v, vn_lt v⟩
    have hvn : ((vn v : Nat) : Int) = v := by unfold vn; rw [if_pos ⟨hv1, hv2⟩]; omega
    have hdec : decide (1 ≤ v ∧ v ≤ 28) = true := by simp; omega
    rw [hdec]
    simp only at hix
    rw [hvn] at hix
    obtain ⟨cf, ff, hcf, hff, hrow⟩ := rep_shape v
    rw [hrow] at hix ⊢
    have c26 := reps_any (w.alloc (.cells #[.string ⟨#[]⟩, .int .u8 0, .int .i64 0, .int .i64 0, .bool false, .bool false, .bool false, .bool false, .nilFunc, .nilFunc] 179))
    generalize repsC = C at c26 hix
    generalize nm (vn v) = n at hix ⊢
    generalize pd (vn v) = p at hix ⊢
    generalize un (vn v) = u at hix ⊢
    generalize mo (vn v) = m at hix ⊢
    generalize tx (vn v) = t at hix ⊢
    generalize ch (vn v) = c at hix ⊢
    generalize mu (vn v) = q at hix ⊢
    generalize lo (vn v) = l at hix ⊢
    clear hrow hvn hdec
    rcases hcf with rfl | ⟨j, rfl⟩ <;> rcases hff with rfl | ⟨j2, rfl⟩
    all_goals go_enter Tryz.func101, Tryz.ntmps101
    all_goals go_wp2_with (first | (go_at_call 109; refine c26.mono ?_; rintro e w' ⟨rfl, rfl⟩) | fail)
    all_goals exact bodyPost_ret (by simp only [results, Tryz.results101]; simp [go_sem]) rfl ⟨rfl, ((Below.refl _ _).alloc (Nat.le_refl _) _).alloc (by simp) _⟩
  · have hdec : decide (1 ≤ v ∧ v ≤ 28) = false := by simp; omega
    have hvn : vn v = 0 := by unfold vn; rw [if_neg hv]
    rw [hdec, hvn, show rowOf 0 = [.string ⟨#[]⟩, .int .u8 0, .int .i64 0, .int .i64 0, .bool false, .bool false, .bool false, .bool false, .nilFunc, .nilFunc] from rfl]
    clear hdec hvn
    have hor : v ≤ 0 ∨ (0 < v ∧ 29 ≤ v) := by omega
    rcases hor with h1 | ⟨h0, h1⟩
    all_goals go_enter Tryz.func101, Tryz.ntmps101
    all_goals go_wp2
    all_goals exact bodyPost_ret (by simp only [results, Tryz.results101]; simp [go_sem]) rfl ⟨rfl, (Below.refl _ _).alloc (Nat.le_refl _) _⟩
end Go.Proofs.YtdggplhkeekdjaaGreatDoor.Rp

/-
  DERIVED. What the program tells of a VR.
-/
namespace Go.Proofs.YtdggplhkeekdjaaGreatDoor.Rp
open Go Go.Proofs Go.RowKit

theorem repOf_open (w : World) (v : Int) : ∃ cf ff, FunV cf ∧ FunV ff ∧ Calls Tryz.prog 101 #[.int .i64 v] w fun e w' => e = .returned (.tuple #[.agg #[.string (nm (vn v)), .int .u8 (pd (vn v)), .int .i64 (un (vn v)), .int .i64 (mo (vn v)), .bool (tx (vn v)), .bool (ch (vn v)), .bool (mu (vn v)), .bool (lo (vn v)), cf, ff], .bool (decide (1 ≤ v ∧ v ≤ 28))]) ∧ Below w.heap.size w w' := by
  obtain ⟨cf, ff, h1, h2, h3⟩ := rep_shape v
  have := repOf_any w v
  rw [h3] at this
  exact ⟨cf, ff, h1, h2, this⟩

/-- What there is to know of a VR, as a value. -/
def infoV (k : Nat) : Value := .agg #[.string (nm k), .int .u8 (pd k), .int .i64 (un k), .int .i64 (mo k), .bool (tx k), .bool (ch k), .bool (mu k), .bool (lo k)]

end Go.Proofs.YtdggplhkeekdjaaGreatDoor.Rp
