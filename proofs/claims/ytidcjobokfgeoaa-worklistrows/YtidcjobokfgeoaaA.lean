import Derived.Test.YtidcjobokfgeoaaProg
import Derived.WalkKit
import Derived.WalkSpells
import Derived.WalkLawsBesides
import Derived.WalkMore
import Derived.Deep.QuietTactic
import Derived.BigQuiet
import Derived.BigRegion
import Derived.KernelRfl
import Derived.Deep.RegionWith
import Derived.Deep.Cut
import Derived.Deep.AppendLies
import Derived.RegionTactic
import Derived.LoopTactic
import Derived.Great.BuildSlice
/-
  DERIVED. What is known of a step: the table.
-/
namespace Go.Proofs.Ytidcjobokfgeoaa
open Go Go.Proofs Go.RowKit


/-- Operations that only lay values into the frame. -/
def bstep (P : Program) (a : Act) (o : Oper) : Act :=
  match o.op with
  | .build t parts => a.put o.dst (.agg ((P.built t (parts.map fun (i, x) => (i, a.eval x)).toList).getD #[]))
  | .move x => a.put o.dst (a.eval x)
  | _ => a
def bok (P : Program) (a : Act) (o : Oper) : Bool :=
  o.guard.isNone && match o.op with
    | .build t parts => (P.built t (parts.map fun (i, x) => (i, a.eval x)).toList).isSome
    | .move _ => true
    | _ => false
def boks (P : Program) : List Oper → Act → Bool
  | [], _ => true
  | o :: l, a => bok P a o && boks P l (bstep P a o)

theorem wpList_steps {P : Program} {ops : Array Oper} {rest : List Oper} {w : World} {Q : Exit → Act → World → Prop} : ∀ (bs : List Oper) (a : Act), boks P bs a = true → wpList P ops Q rest (bs.foldl (bstep P) a) w → wpList P ops Q (bs ++ rest) a w
  | [], a, _, h => h
  | o :: bs, a, hk, h => by
    rw [boks, Bool.and_eq_true] at hk
    have ih := wpList_steps bs (bstep P a o) hk.2 h
    have h1 := hk.1
    unfold bok at h1
    rw [Bool.and_eq_true] at h1
    have hg : o.guard = none := by simpa using h1.1
    have h2 := h1.2
    rw [List.cons_append]
    unfold bstep at ih
    split at h2
    · rename_i t parts ho
      rw [ho] at ih
      exact wpList_build hg t parts ho h2 ih
    · rename_i x ho
      rw [ho] at ih
      refine wpList_plain hg fun K hK => ?_
      unfold Oper.wp execOp
      simp only [ho, Sem.run_pure]
      exact hK _ _ ih
    · cases h2

theorem wpList_take {P : Program} {ops : Array Oper} {l : List Oper} {w : World} {a : Act} {Q : Exit → Act → World → Prop} (n : Nat) (hk : boks P (l.take n) a = true) (h : wpList P ops Q (l.drop n) ((l.take n).foldl (bstep P) a) w) : wpList P ops Q l a w := by
  have := wpList_steps (l.take n) a hk h
  rwa [List.take_append_drop] at this

theorem info51 : (Try.prog.info? 51).map (fun i => (i.zero, i.size, i.bytes)) = some (some (.agg #[.int .i64 0, .int .u32 0, .int .i64 0, .nilFunc]), 4, 32) := by kernel_rfl
theorem info41 : (Try.prog.info? 41).map (fun i => (i.zero, i.size, i.bytes)) = some (some (.agg #[.int .u32 0, .int .i64 0, .int .i64 0, .string ⟨#[]⟩]), 4, 40) := by kernel_rfl
theorem info47 : (Try.prog.info? 47).map (fun i => (i.zero, i.size, i.bytes)) = some (some (.agg #[.int .u32 0, .int .i64 0, .int .i64 0, .string ⟨#[]⟩, .nilFunc]), 5, 48) := by kernel_rfl
theorem info24 : (Try.prog.info? 24).map (fun i => (i.zero, i.size, i.bytes)) = some (some (.slice none 0 0), 1, 24) := by kernel_rfl
theorem info53 : (Try.prog.info? 53).map (fun i => (i.zero, i.size, i.bytes)) = some (some (.agg #[.int .u32 0, .int .i64 0, .string ⟨#[]⟩]), 3, 32) := by kernel_rfl
def atC : Array Value := #[.int .i64 0, .int .u32 524368, .int .i64 16, .func (.func 19) #[] #[], .int .i64 0, .int .u32 524432, .int .i64 15, .func (.func 20) #[] #[], .int .i64 0, .int .u32 1048592, .int .i64 15, .func (.func 21) #[] #[], .int .i64 0, .int .u32 1048608, .int .i64 11, .func (.func 22) #[] #[], .int .i64 0, .int .u32 1048609, .int .i64 11, .func (.func 23) #[] #[], .int .i64 0, .int .u32 1048624, .int .i64 5, .func (.func 24) #[] #[], .int .i64 0, .int .u32 1048640, .int .i64 4, .func (.func 25) #[] #[], .int .i64 0, .int .u32 2097165, .int .i64 23, .func (.func 26) #[] #[], .int .i64 0, .int .u32 3280992, .int .i64 11, .func (.func 27) #[] #[], .int .i64 0, .int .u32 4194560, .int .i64 18, .nilFunc, .int .i64 1, .int .u32 524384, .int .i64 4, .func (.func 28) #[] #[], .int .i64 1, .int .u32 4194305, .int .i64 1, .func (.func 29) #[] #[], .int .i64 1, .int .u32 4194306, .int .i64 5, .func (.func 30) #[] #[], .int .i64 1, .int .u32 4194307, .int .i64 21, .func (.func 31) #[] #[], .int .i64 1, .int .u32 4194310, .int .i64 15, .func (.func 32) #[] #[], .int .i64 1, .int .u32 4194311, .int .i64 11, .func (.func 33) #[] #[], .int .i64 1, .int .u32 4194313, .int .i64 16, .func (.func 34) #[] #[], .int .i64 1, .int .u32 4194320, .int .i64 16, .func (.func 35) #[] #[], .int .i64 1, .int .u32 4194321, .int .i64 16, .func (.func 36) #[] #[], .int .i64 1, .int .u32 4194336, .int .i64 4, .func (.func 37) #[] #[], .int .i64 0, .int .u32 4198401, .int .i64 16, .func (.func 38) #[] #[]]

set_option maxRecDepth 100000 in
set_option maxHeartbeats 2000000 in
theorem attrs_any (w : World) : Calls Try.prog 14 #[] w fun e w' => e = .returned (.slice (some ⟨w.heap.size, 0, none⟩) 21 21) ∧ w' = w.alloc (.cells atC 51) := by
  go_enter Try.func14, Try.ntmps14
  refine wp_seq ?_
  generalize hQ : Exit.then _ _ = Q
  go_wp2
  subst hQ
  show Code.wp _ (Code.seq _ _) _ _ _
  refine wp_seq ?_
  refine wp_region_list ?_
  refine wpList_take 21 (by kernel_rfl) ?_
  refine wpList_frame (a' := ⟨#[.slice none 0 0, .agg #[.int .i64 0, .int .u32 524368, .int .i64 16, .func (.func 19) #[] #[]], .agg #[.int .i64 0, .int .u32 524432, .int .i64 15, .func (.func 20) #[] #[]], .agg #[.int .i64 0, .int .u32 1048592, .int .i64 15, .func (.func 21) #[] #[]], .agg #[.int .i64 0, .int .u32 1048608, .int .i64 11, .func (.func 22) #[] #[]], .agg #[.int .i64 0, .int .u32 1048609, .int .i64 11, .func (.func 23) #[] #[]], .agg #[.int .i64 0, .int .u32 1048624, .int .i64 5, .func (.func 24) #[] #[]], .agg #[.int .i64 0, .int .u32 1048640, .int .i64 4, .func (.func 25) #[] #[]], .agg #[.int .i64 0, .int .u32 2097165, .int .i64 23, .func (.func 26) #[] #[]], .agg #[.int .i64 0, .int .u32 3280992, .int .i64 11, .func (.func 27) #[] #[]], .agg #[.int .i64 0, .int .u32 4194560, .int .i64 18, .nilFunc], .agg #[.int .i64 1, .int .u32 524384, .int .i64 4, .func (.func 28) #[] #[]], .agg #[.int .i64 1, .int .u32 4194305, .int .i64 1, .func (.func 29) #[] #[]], .agg #[.int .i64 1, .int .u32 4194306, .int .i64 5, .func (.func 30) #[] #[]], .agg #[.int .i64 1, .int .u32 4194307, .int .i64 21, .func (.func 31) #[] #[]], .agg #[.int .i64 1, .int .u32 4194310, .int .i64 15, .func (.func 32) #[] #[]], .agg #[.int .i64 1, .int .u32 4194311, .int .i64 11, .func (.func 33) #[] #[]], .agg #[.int .i64 1, .int .u32 4194313, .int .i64 16, .func (.func 34) #[] #[]], .agg #[.int .i64 1, .int .u32 4194320, .int .i64 16, .func (.func 35) #[] #[]], .agg #[.int .i64 1, .int .u32 4194321, .int .i64 16, .func (.func 36) #[] #[]], .agg #[.int .i64 1, .int .u32 4194336, .int .i64 4, .func (.func 37) #[] #[]], .agg #[.int .i64 0, .int .u32 4198401, .int .i64 16, .func (.func 38) #[] #[]], undef], []⟩) (by kernel_rfl) ?_
  obtain ⟨i0, hi, hz0, hz1, hz2⟩ := info_parts info51
  refine wpList_buildSlice rfl 42 51 21 _ rfl atC i0 _ Try.underlying42 hi hz0 (by rw [hz1]; decide) (by rw [hz1]; decide) (by rw [hz1]; kernel_rfl) ?_
  go_wp2
  go_ret
  exact ⟨rfl, rfl⟩
end Go.Proofs.Ytidcjobokfgeoaa
