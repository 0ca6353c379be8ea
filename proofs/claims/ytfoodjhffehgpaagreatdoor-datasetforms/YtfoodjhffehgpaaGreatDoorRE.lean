import Derived.Test.YtfoodjhffehgpaaGreatDoorRC
import Derived.Laws.EntriesVeiled
section
/-
  DERIVED. A VR's row, looked up.
-/
namespace Go.Proofs.YtfoodjhffehgpaaGreatDoor.Rp
open Go Go.Proofs Go.RowKit

set_option maxRecDepth 100000 in
theorem idx_at : ∀ (v : Fin 29) (W : World), (Instr.index 189 (.agg repsC) (.int .i64 (v.val : Int))).run Tryz.prog W = .ok (.agg (rowOf v.val).toArray) W
  | ⟨0, _⟩ => fun _ => by kernel_rfl | ⟨1, _⟩ => fun _ => by kernel_rfl | ⟨2, _⟩ => fun _ => by kernel_rfl | ⟨3, _⟩ => fun _ => by kernel_rfl | ⟨4, _⟩ => fun _ => by kernel_rfl | ⟨5, _⟩ => fun _ => by kernel_rfl
  | ⟨6, _⟩ => fun _ => by kernel_rfl | ⟨7, _⟩ => fun _ => by kernel_rfl | ⟨8, _⟩ => fun _ => by kernel_rfl | ⟨9, _⟩ => fun _ => by kernel_rfl | ⟨10, _⟩ => fun _ => by kernel_rfl | ⟨11, _⟩ => fun _ => by kernel_rfl
  | ⟨12, _⟩ => fun _ => by kernel_rfl | ⟨13, _⟩ => fun _ => by kernel_rfl | ⟨14, _⟩ => fun _ => by kernel_rfl | ⟨15, _⟩ => fun _ => by kernel_rfl | ⟨16, _⟩ => fun _ => by kernel_rfl | ⟨17, _⟩ => fun _ => by kernel_rfl
  | ⟨18, _⟩ => fun _ => by kernel_rfl | ⟨19, _⟩ => fun _ => by kernel_rfl | ⟨20, _⟩ => fun _ => by kernel_rfl | ⟨21, _⟩ => fun _ => by kernel_rfl | ⟨22, _⟩ => fun _ => by kernel_rfl | ⟨23, _⟩ => fun _ => by kernel_rfl
  | ⟨24, _⟩ => fun _ => by kernel_rfl | ⟨25, _⟩ => fun _ => by kernel_rfl | ⟨26, _⟩ => fun _ => by kernel_rfl | ⟨27, _⟩ => fun _ => by kernel_rfl | ⟨28, _⟩ => fun _ => by kernel_rfl
  | ⟨n + 29, h⟩ => absurd h (by omega)

/-- What stands in a row. -/
def strV : Value → ByteArray
  | .string s => s
  | _ => ⟨#[]⟩
def intV : Value → Int
  | .int _ i => i
  | _ => 0
def boolV : Value → Bool
  | .bool b => b
  | _ => false
def nm (k : Nat) : ByteArray := strV ((rowOf k).getD 0 undef)
def pd (k : Nat) : Int := intV ((rowOf k).getD 1 undef)
def un (k : Nat) : Int := intV ((rowOf k).getD 2 undef)
def mo (k : Nat) : Int := intV ((rowOf k).getD 3 undef)
def tx (k : Nat) : Bool := boolV ((rowOf k).getD 4 undef)
def ch (k : Nat) : Bool := boolV ((rowOf k).getD 5 undef)
def mu (k : Nat) : Bool := boolV ((rowOf k).getD 6 undef)
def lo (k : Nat) : Bool := boolV ((rowOf k).getD 7 undef)

/-- A function of the program, or none. -/
def FunV (v : Value) : Prop := v = .nilFunc ∨ ∃ j, v = .func (.func j) #[] #[]

theorem row_shape : ∀ (v : Fin 29), ∃ cf ff, FunV cf ∧ FunV ff ∧ rowOf v.val = [.string (nm v.val), .int .u8 (pd v.val), .int .i64 (un v.val), .int .i64 (mo v.val), .bool (tx v.val), .bool (ch v.val), .bool (mu v.val), .bool (lo v.val), cf, ff]
  | ⟨0, _⟩ => ⟨_, _, by unfold FunV; simp, by unfold FunV; simp, rfl⟩ | ⟨1, _⟩ => ⟨_, _, by unfold FunV; simp, by unfold FunV; simp, rfl⟩ | ⟨2, _⟩ => ⟨_, _, by unfold FunV; simp, by unfold FunV; simp, rfl⟩ | ⟨3, _⟩ => ⟨_, _, by unfold FunV; simp, by unfold FunV; simp, rfl⟩ | ⟨4, _⟩ => ⟨_, _, by unfold FunV; simp, by unfold FunV; simp, rfl⟩ | ⟨5, _⟩ => ⟨_, _, by unfold FunV; simp, by unfold FunV; simp, rfl⟩
  | ⟨6, _⟩ => ⟨_, _, by unfold FunV; simp, by unfold FunV; simp, rfl⟩ | ⟨7, _⟩ => ⟨_, _, by unfold FunV; simp, by unfold FunV; simp, rfl⟩ | ⟨8, _⟩ => ⟨_, _, by unfold FunV; simp, by unfold FunV; simp, rfl⟩ | ⟨9, _⟩ => ⟨_, _, by unfold FunV; simp, by unfold FunV; simp, rfl⟩ | ⟨10, _⟩ => ⟨_, _, by unfold FunV; simp, by unfold FunV; simp, rfl⟩ | ⟨11, _⟩ => ⟨_, _, by unfold FunV; simp, by unfold FunV; simp, rfl⟩
  | ⟨12, _⟩ => ⟨_, _, by unfold FunV; simp, by unfold FunV; simp, rfl⟩ | ⟨13, _⟩ => ⟨_, _, by unfold FunV; simp, by unfold FunV; simp, rfl⟩ | ⟨14, _⟩ => ⟨_, _, by unfold FunV; simp, by unfold FunV; simp, rfl⟩ | ⟨15, _⟩ => ⟨_, _, by unfold FunV; simp, by unfold FunV; simp, rfl⟩ | ⟨16, _⟩ => ⟨_, _, by unfold FunV; simp, by unfold FunV; simp, rfl⟩ | ⟨17, _⟩ => ⟨_, _, by unfold FunV; simp, by unfold FunV; simp, rfl⟩
  | ⟨18, _⟩ => ⟨_, _, by unfold FunV; simp, by unfold FunV; simp, rfl⟩ | ⟨19, _⟩ => ⟨_, _, by unfold FunV; simp, by unfold FunV; simp, rfl⟩ | ⟨20, _⟩ => ⟨_, _, by unfold FunV; simp, by unfold FunV; simp, rfl⟩ | ⟨21, _⟩ => ⟨_, _, by unfold FunV; simp, by unfold FunV; simp, rfl⟩ | ⟨22, _⟩ => ⟨_, _, by unfold FunV; simp, by unfold FunV; simp, rfl⟩ | ⟨23, _⟩ => ⟨_, _, by unfold FunV; simp, by unfold FunV; simp, rfl⟩
  | ⟨24, _⟩ => ⟨_, _, by unfold FunV; simp, by unfold FunV; simp, rfl⟩ | ⟨25, _⟩ => ⟨_, _, by unfold FunV; simp, by unfold FunV; simp, rfl⟩ | ⟨26, _⟩ => ⟨_, _, by unfold FunV; simp, by unfold FunV; simp, rfl⟩ | ⟨27, _⟩ => ⟨_, _, by unfold FunV; simp, by unfold FunV; simp, rfl⟩ | ⟨28, _⟩ => ⟨_, _, by unfold FunV; simp, by unfold FunV; simp, rfl⟩
  | ⟨n + 29, h⟩ => absurd h (by omega)

/-- Which row a VR has; the first one is nobody's. -/
def vn (v : Int) : Nat := if 1 ≤ v ∧ v ≤ 28 then v.toNat else 0

theorem vn_lt (v : Int) : vn v < 29 := by unfold vn; split <;> omega

theorem rep_shape (v : Int) : ∃ cf ff, FunV cf ∧ FunV ff ∧ rowOf (vn v) = [.string (nm (vn v)), .int .u8 (pd (vn v)), .int .i64 (un (vn v)), .int .i64 (mo (vn v)), .bool (tx (vn v)), .bool (ch (vn v)), .bool (mu (vn v)), .bool (lo (vn v)), cf, ff] := row_shape ⟨vn v, vn_lt v⟩

set_option maxRecDepth 100000 in
set_option maxHeartbeats 1000000 in
theorem repOf_any (w : World) (v : Int) : Calls Tryz.prog 93 #[.int .i64 v] w fun e w' => e = .returned (.tuple #[.agg (rowOf (vn v)).toArray, .bool (decide (1 ≤ v ∧ v ≤ 28))]) ∧ Below w.heap.size w w' := by
  by_cases hv : 1 ≤ v ∧ v ≤ 28
  · obtain ⟨hv1, hv2⟩ := hv
    have hix := idx_at ⟨vn v, vn_lt v⟩
    have hvn : ((vn v : Nat) : Int) = v := by unfold vn; rw [if_pos ⟨hv1, hv2⟩]; omega
    have hdec : decide (1 ≤ v ∧ v ≤ 28) = true := by simp; omega
    rw [hdec]
    simp only at hix
    rw [hvn] at hix
    obtain ⟨cf, ff, hcf, hff, hrow⟩ := rep_shape v
    rw [hrow] at hix ⊢
    have c26 := reps_any (w.alloc (.cells #[.string ⟨#[]⟩, .int .u8 0, .int .i64 0, .int .i64 0, .bool false, .bool false, .bool false, .bool false, .nilFunc, .nilFunc] 169))
    generalize repsC = C at c26 hix
    generalize nm (vn v) = n at hix ⊢
    generalize pd (vn v) = p at hix ⊢
    generalize un (vn v) = u at hix ⊢
    generalize mo (vn v) = m at hix ⊢
    generalize tx (vn v) = t at hix ⊢
    generalize ch (vn v) = c at hix ⊢
    generalize mu (vn v) = q at hix ⊢
    generalize lo (vn v) = l at hix ⊢
    clear hrow hvn hdec
    rcases hcf with rfl | ⟨j, rfl⟩ <;> rcases hff with rfl | ⟨j2, rfl⟩
    all_goals go_enter Tryz.func93, Tryz.ntmps93
    all_goals go_wp2_with (first | (go_at_call 103; refine c26.mono ?_; rintro e w' ⟨rfl, rfl⟩) | fail)
    all_goals exact bodyPost_ret (by simp only [results, Tryz.results93]; simp [go_sem]) rfl ⟨rfl, ((Below.refl _ _).alloc (Nat.le_refl _) _).alloc (by simp) _⟩
  · have hdec : decide (1 ≤ v ∧ v ≤ 28) = false := by simp; omega
    have hvn : vn v = 0 := by unfold vn; rw [if_neg hv]
    rw [hdec, hvn, show rowOf 0 = [.string ⟨#[]⟩, .int .u8 0, .int .i64 0, .int .i64 0, .bool false, .bool false, .bool false, .bool false, .nilFunc, .nilFunc] from rfl]
    clear hdec hvn
    have hor : v ≤ 0 ∨ (0 < v ∧ 29 ≤ v) := by omega
    rcases hor with h1 | ⟨h0, h1⟩
    all_goals go_enter Tryz.func93, Tryz.ntmps93
    all_goals go_wp2
    all_goals exact bodyPost_ret (by simp only [results, Tryz.results93]; simp [go_sem]) rfl ⟨rfl, (Below.refl _ _).alloc (Nat.le_refl _) _⟩
end Go.Proofs.YtfoodjhffehgpaaGreatDoor.Rp
end

section
/-
  DERIVED. What the program tells of a VR.
-/
namespace Go.Proofs.YtfoodjhffehgpaaGreatDoor.Rp
open Go Go.Proofs Go.RowKit

theorem repOf_open (w : World) (v : Int) : ∃ cf ff, FunV cf ∧ FunV ff ∧ Calls Tryz.prog 93 #[.int .i64 v] w fun e w' => e = .returned (.tuple #[.agg #[.string (nm (vn v)), .int .u8 (pd (vn v)), .int .i64 (un (vn v)), .int .i64 (mo (vn v)), .bool (tx (vn v)), .bool (ch (vn v)), .bool (mu (vn v)), .bool (lo (vn v)), cf, ff], .bool (decide (1 ≤ v ∧ v ≤ 28))]) ∧ Below w.heap.size w w' := by
  obtain ⟨cf, ff, h1, h2, h3⟩ := rep_shape v
  have := repOf_any w v
  rw [h3] at this
  exact ⟨cf, ff, h1, h2, this⟩

/-- What there is to know of a VR, as a value. -/
def infoV (k : Nat) : Value := .agg #[.string (nm k), .int .u8 (pd k), .int .i64 (un k), .int .i64 (mo k), .bool (tx k), .bool (ch k), .bool (mu k), .bool (lo k)]

end Go.Proofs.YtfoodjhffehgpaaGreatDoor.Rp
end
