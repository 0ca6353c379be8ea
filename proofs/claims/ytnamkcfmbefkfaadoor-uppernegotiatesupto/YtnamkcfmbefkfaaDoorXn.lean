import Derived.Test.YtnamkcfmbefkfaaDoorVa
import Derived.Great.BuildSlice
namespace Go.Proofs.YtnamkcfmbefkfaaDoor
open Go Go.Proofs Go.RowKit
theorem step_build {P : Program} {ops : Array Oper} {rest : List Oper} {o : Oper} {a : Act} {w : World} {Q : Exit → Act → World → Prop} (hg : o.guard = none) (t : TypeId) (parts : Array (Nat × Operand)) (ho : o.op = .build t parts) (cells : Array Value)
    (hb : P.built t (parts.map fun (i, x) => (i, a.eval x)).toList = some cells) (h : wpList P ops Q rest (a.put o.dst (.agg cells)) w) : wpList P ops Q (o :: rest) a w :=
  wpList_build hg t parts ho (by rw [hb]; rfl) (by rw [hb]; exact h)
end Go.Proofs.YtnamkcfmbefkfaaDoor

namespace Go.Proofs.YtnamkcfmbefkfaaDoor
open Go Go.Proofs Go.RowKit
def zc : Fin 18 → Value := fun i => #[.int .u16 0, .string ⟨#[]⟩, .string ⟨#[]⟩, .string ⟨#[]⟩, .slice none 0 0, .bool false, .int .u32 0, .string ⟨#[]⟩, .string ⟨#[]⟩, .bool false, .int .u16 0, .int .u16 0, .slice none 0 0, .slice none 0 0, .int .u8 0, .int .u8 0, .int .u8 0, .slice none 0 0].getD i.val undef
def D0 : PdD := ⟨[], [], [], []⟩
theorem fits0 (n : Nat) : Fits ([] : List El).length n := by unfold Fits; simp
theorem ox_zero (B : Nat) (W : World) (c : Fin 18 → Value) (h : ∀ i, (c i).oneCell' = true) (h4 : c 4 = .slice none 0 0) (h12 : c 12 = .slice none 0 0) (h13 : c 13 = .slice none 0 0) (h17 : c 17 = .slice none 0 0) : OX B W c D0 :=
  ⟨h, ⟨h4 ▸ OE.nil _ _ _ _ _, fits0 _⟩, ⟨h12 ▸ OE.nil _ _ _ _ _, fits0 _⟩, ⟨h13 ▸ OE.nil _ _ _ _ _, fits0 _⟩, ⟨h17 ▸ OE.nil _ _ _ _ _, fits0 _⟩, 0, 0, 0, h13 ▸ BR.nil _ _ _ _ _ _, h17 ▸ BR.nil _ _ _ _ _ _⟩
theorem oxf_zero (F : Nat → Prop) (B : Nat) (W : World) (c : Fin 18 → Value) (h : ∀ i, (c i).oneCell' = true) (h4 : c 4 = .slice none 0 0) (h12 : c 12 = .slice none 0 0) (h13 : c 13 = .slice none 0 0) (h17 : c 17 = .slice none 0 0) : OXF F B W c D0 :=
  ⟨ox_zero B W c h h4 h12 h13 h17, h4 ▸ RF.nil _ _ _ _ _, h12 ▸ RF.nil _ _ _ _ _, h13 ▸ RF.nil _ _ _ _ _, h17 ▸ RF.nil _ _ _ _ _⟩
theorem pd_zero (k : Int) : Tryd.prog.built 33 [(0, .int .i64 k)] = some (Pd k zc) := by kernel_rfl
theorem pd_zero0 : Tryd.prog.built 33 [] = some (Pd 0 zc) := by kernel_rfl
end Go.Proofs.YtnamkcfmbefkfaaDoor

namespace Go.Proofs.YtnamkcfmbefkfaaDoor
open Go Go.Proofs Go.RowKit
end Go.Proofs.YtnamkcfmbefkfaaDoor

namespace Go.Proofs.YtnamkcfmbefkfaaDoor
open Go Go.Proofs Go.RowKit
end Go.Proofs.YtnamkcfmbefkfaaDoor

namespace Go.Proofs.YtnamkcfmbefkfaaDoor
open Go Go.Proofs Go.RowKit
end Go.Proofs.YtnamkcfmbefkfaaDoor

namespace Go.Proofs.YtnamkcfmbefkfaaDoor
open Go Go.Proofs Go.RowKit
end Go.Proofs.YtnamkcfmbefkfaaDoor

namespace Go.Proofs.YtnamkcfmbefkfaaDoor
open Go Go.Proofs Go.RowKit
end Go.Proofs.YtnamkcfmbefkfaaDoor
