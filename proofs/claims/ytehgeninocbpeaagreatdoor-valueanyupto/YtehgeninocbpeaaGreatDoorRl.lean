import Derived.Test.YtehgeninocbpeaaGreatDoorVb
import Derived.Lib.LaidU8
import Derived.OpenShut
/-
  DERIVED. From what the row lists to what the walks ask: the rules.
-/
namespace Go.Proofs.YtehgeninocbpeaaGreatDoor.Rl
open Go Go.Proofs Go.RowKit
open Go.Proofs.YtehgeninocbpeaaGreatDoor.Tm

theorem cells3 : Tryz.prog.cellsOf 3 = 1 := by kernel_rfl
theorem cells4 : Tryz.prog.cellsOf 4 = 1 := by kernel_rfl
theorem cells45 : Tryz.prog.cellsOf 45 = 2 := by kernel_rfl
theorem gRu : Tryz.prog.globalNamed "modality/value.rules" = some 0 := by kernel_rfl
theorem tRu : (Tryz.prog.globals[0]?).map (·.type) = some 84 := by kernel_rfl
theorem two_of {α : Type} : ∀ {l : List α}, l.length = 2 → ∃ a b, l = [a, b]
  | [a, b], _ => ⟨a, b, rfl⟩
  | [], h => by simp at h
  | [_], h => by simp at h
  | _ :: _ :: _ :: _, h => by simp at h

theorem row_rule {w : World} {fuel : Nat} {cs : List Value} {a : Int} {b : Bool} {p : List MemPlace}
    (h : DataW.trod (fun _ => ()) Tryz.prog w 0 (fun _ => true) false fuel 45 cs = some (.agg [.lit (.int .i64 a), .lit (.bool b)], p)) :
    cs = [.int .i64 a, .bool b] := by
  obtain ⟨xs, n, rfl, hx, hl, hxl, hall⟩ := DataW.trod_struct Tryz.underlying45 h
  have hxs : xs.map (·.1) = [.lit (.int .i64 a), .lit (.bool b)] := by
    have := congrArg Prod.fst hx
    simpa using this.symm
  obtain ⟨x0, x1, rfl⟩ : ∃ x0 x1, xs = [x0, x1] := by
    match xs, hxl with
    | [x0, x1], _ => exact ⟨x0, x1, rfl⟩
  simp only [List.map_cons, List.map_nil, List.cons.injEq, and_true] at hxs
  obtain ⟨e0, e1⟩ := hxs
  have h0 := hall 0 _ rfl
  have h1 := hall 1 _ rfl
  have c0 : cs[0]? = some (.int .i64 a) := by
    obtain ⟨t, ht, rfl, _⟩ := DataW.trod_int Tryz.underlying3 h0
    simp only [DataW.lit.injEq, Lit.int.injEq, true_and] at e0
    subst e0
    have := congrArg (·[0]?) ht
    simp only [List.getElem?_cons_zero] at this
    have e3 : Tryz.prog.cellsOf 3 = 1 := cells3
    simpa [List.getElem?_take, e3] using this
  have c1 : cs[1]? = some (.bool b) := by
    obtain ⟨t, ht, rfl⟩ := DataW.trod_bool Tryz.underlying4 h1
    simp only [DataW.lit.injEq, Lit.bool.injEq] at e1
    subst e1
    have := congrArg (·[0]?) ht
    have e3 : Tryz.prog.cellsOf 4 = 1 := cells4
    simpa [List.getElem?_take, List.getElem?_drop, e3] using this
  rw [cells45] at hl
  clear hall h0 h1 h
  obtain ⟨v0, v1, rfl⟩ := two_of hl
  simp at c0 c1
  rw [c0, c1]

def ruD : DataW Unit := .agg ((List.range 29).map fun i => .agg [.lit (.int .i64 (rbL.getD i 0)), .lit (.bool (rcL.getD i false))])

theorem rules_of {W : World} (h : Lib.VarReads Tryz.prog W "modality/value.rules" ruD) : Rt W := by
  obtain ⟨g, t, cs, fuel, p, hg, hty, hvar, hd⟩ := h
  obtain rfl := Option.some.inj (gRu.symm.trans hg)
  obtain rfl := Option.some.inj (tRu.symm.trans hty)
  have hrow : ∀ i, i < 29 → (cs.toList.drop (i * 2)).take 2 = [.int .i64 (rbL.getD i 0), .bool (rcL.getD i false)] := by
    intro i hi
    obtain ⟨fuel', d, q, hdi, he⟩ := Lib.array_elem Tryz.underlying84 hd i hi
    simp only [List.getElem?_map, List.getElem?_range hi, Option.map_some, Option.some.injEq] at hdi
    subst hdi
    rw [cells45] at he
    exact row_rule he
  have hblk : ∃ t fr, W.heap[0]? = some (.cells cs t fr) := by
    unfold World.var? at hvar
    rw [gRu] at hvar
    simp only [Option.bind_some] at hvar
    split at hvar
    · rename_i c t fr hh
      simp at hvar
      subst hvar
      exact ⟨t, fr, hh⟩
    · cases hvar
  obtain ⟨t, fr, hh⟩ := hblk
  have hcell : ∀ k, W.cell? ⟨0, k, none⟩ = cs[k]? := fun k => cell_of_row W 0 k cs t fr hh
  refine ⟨fun i hi => ?_, fun i hi => ?_⟩
  · rw [hcell]
    have := congrArg (·[0]?) (hrow i hi)
    simp only [List.getElem?_take, List.getElem?_drop] at this
    rw [if_pos (by omega), show i * 2 + 0 = 2 * i by omega, Array.getElem?_toList] at this
    exact this
  · rw [hcell]
    have := congrArg (·[1]?) (hrow i hi)
    simp only [List.getElem?_take, List.getElem?_drop] at this
    rw [if_pos (by omega), show i * 2 + 1 = 2 * i + 1 by omega, Array.getElem?_toList] at this
    exact this
end Go.Proofs.YtehgeninocbpeaaGreatDoor.Rl
