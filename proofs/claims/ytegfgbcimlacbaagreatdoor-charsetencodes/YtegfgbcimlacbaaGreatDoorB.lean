
import Derived.Test.YtegfgbcimlacbaaGreatDoorE
import Derived.Deep.RegionHeld3
import Derived.Laws.Rows
/-
  DERIVED. The terms of the program's table, and which one a text is.
-/
namespace Go.Proofs.YtegfgbcimlacbaaGreatDoor
open Go Go.Proofs Go.RowKit

/-- The table's cells: the term without code extensions, with them, the escape. -/
def spL : List (List UInt8) := [[73, 83, 79, 95, 73, 82, 32, 54], [73, 83, 79, 32, 50, 48, 50, 50, 32, 73, 82, 32, 54], [27, 40, 66],
  [73, 83, 79, 95, 73, 82, 32, 49, 48, 48], [73, 83, 79, 32, 50, 48, 50, 50, 32, 73, 82, 32, 49, 48, 48], [27, 45, 65],
  [73, 83, 79, 95, 73, 82, 32, 49, 48, 49], [73, 83, 79, 32, 50, 48, 50, 50, 32, 73, 82, 32, 49, 48, 49], [27, 45, 66],
  [73, 83, 79, 95, 73, 82, 32, 49, 50, 54], [73, 83, 79, 32, 50, 48, 50, 50, 32, 73, 82, 32, 49, 50, 54], [27, 45, 70],
  [73, 83, 79, 95, 73, 82, 32, 49, 52, 52], [73, 83, 79, 32, 50, 48, 50, 50, 32, 73, 82, 32, 49, 52, 52], [27, 45, 76],
  [73, 83, 79, 95, 73, 82, 32, 49, 52, 56], [73, 83, 79, 32, 50, 48, 50, 50, 32, 73, 82, 32, 49, 52, 56], [27, 45, 77],
  [73, 83, 79, 95, 73, 82, 32, 49, 57, 50], [], []]
def sp (k : Nat) : ByteArray := ⟨(spL.getD k []).toArray⟩

def spC : Array Value := #[.string (sp 0), .string (sp 1), .string (sp 2), .string (sp 3), .string (sp 4), .string (sp 5), .string (sp 6), .string (sp 7), .string (sp 8), .string (sp 9), .string (sp 10), .string (sp 11), .string (sp 12), .string (sp 13), .string (sp 14), .string (sp 15), .string (sp 16), .string (sp 17), .string (sp 18), .string (sp 19), .string (sp 20)]

/-- The table lies in memory. -/
def Spell (w : World) : Prop := ∃ t fr, w.heap[1]? = some (.cells spC t fr)

theorem Spell.next {w w' : World} (h : Spell w) {B : Nat} (hb : Below B w w') (hB : 1 < B) : Spell w' := by
  obtain ⟨t, fr, hg⟩ := h
  exact ⟨t, fr, (hb.block 1 hB).trans hg⟩
theorem Spell.lt {w : World} (h : Spell w) : 1 < w.heap.size := by
  obtain ⟨t, fr, hg⟩ := h
  exact (Array.getElem?_eq_some_iff.1 hg).1
theorem Spell.on {w w' : World} (h : Spell w) (hb : Below w.heap.size w w') : Spell w' := h.next hb h.lt
theorem spC_get : ∀ k : Fin 21, spC[k.val]? = some (.string (sp k.val)) := by
  intro k
  match k with
  | ⟨0, _⟩ => rfl
  | ⟨1, _⟩ => rfl
  | ⟨2, _⟩ => rfl
  | ⟨3, _⟩ => rfl
  | ⟨4, _⟩ => rfl
  | ⟨5, _⟩ => rfl
  | ⟨6, _⟩ => rfl
  | ⟨7, _⟩ => rfl
  | ⟨8, _⟩ => rfl
  | ⟨9, _⟩ => rfl
  | ⟨10, _⟩ => rfl
  | ⟨11, _⟩ => rfl
  | ⟨12, _⟩ => rfl
  | ⟨13, _⟩ => rfl
  | ⟨14, _⟩ => rfl
  | ⟨15, _⟩ => rfl
  | ⟨16, _⟩ => rfl
  | ⟨17, _⟩ => rfl
  | ⟨18, _⟩ => rfl
  | ⟨19, _⟩ => rfl
  | ⟨20, _⟩ => rfl
  | ⟨n + 21, h⟩ => exact absurd h (by omega)
theorem Spell.cell {w : World} (h : Spell w) (k : Nat) (hk : k < 21) : w.cell? ⟨1, k, none⟩ = some (.string (sp k)) := by
  obtain ⟨t, fr, hg⟩ := h
  rw [cell_of_row w 1 k spC t fr hg]
  exact spC_get ⟨k, hk⟩

/-- Which term it is: without code extensions, with them. -/
def hitA (s : ByteArray) (k : Nat) : Bool := s.toList == (sp (3 * k)).toList
def hitE (s : ByteArray) (k : Nat) : Bool := (s.toList == (sp (3 * k + 1)).toList) && !((sp (3 * k + 1)).toList == [])
def nmd (s : ByteArray) : Nat → Nat → Option (Nat × Bool)
  | 0, _ => none
  | n + 1, k => if hitA s k then some (k, false) else if hitE s k then some (k, true) else nmd s n (k + 1)
def trip : Option (Nat × Bool) → Value
  | some (k, x) => .tuple #[.int .i64 (k : Int), .bool x, .bool true]
  | none => .tuple #[.int .i64 0, .bool false, .bool false]

theorem idx_at : ∀ (k : Fin 7) (W : World), (Instr.index 102 (.agg spC) (.int .i64 (k.val : Int))).run Tryz.prog W = .ok (.agg #[.string (sp (3 * k.val)), .string (sp (3 * k.val + 1)), .string (sp (3 * k.val + 2))]) W
  | ⟨0, _⟩ => fun _ => by kernel_rfl
  | ⟨1, _⟩ => fun _ => by kernel_rfl
  | ⟨2, _⟩ => fun _ => by kernel_rfl
  | ⟨3, _⟩ => fun _ => by kernel_rfl
  | ⟨4, _⟩ => fun _ => by kernel_rfl
  | ⟨5, _⟩ => fun _ => by kernel_rfl
  | ⟨6, _⟩ => fun _ => by kernel_rfl
  | ⟨n + 7, h⟩ => absurd h (by omega)

set_option maxRecDepth 100000 in
theorem named_any (w : World) (s : ByteArray) (hS : Spell w) : Calls Tryz.prog 42 #[.string s] w fun e w' => e = .returned (trip (nmd s 7 0)) ∧ Below w.heap.size w w' := by
  obtain ⟨ty, fr, hg⟩ := hS
  have HIX : Hid (∀ k : Nat, k < 7 → ∀ W : World, (Instr.index 102 (.agg spC) (.int .i64 (k : Int))).run Tryz.prog W = .ok (.agg #[.string (sp (3 * k)), .string (sp (3 * k + 1)), .string (sp (3 * k + 2))]) W) := fun k hk W => idx_at ⟨k, hk⟩ W
  have hi : (Tryz.prog.info? 102).map (·.size) = some spC.size := by kernel_rfl
  generalize spC = C at hg HIX hi
  obtain ⟨R, hR⟩ : ∃ R, nmd s 7 0 = R := ⟨_, rfl⟩
  have HR : Hid (nmd s 7 0 = R) := hR
  rw [hR]
  clear hR
  go_enter Tryz.func42, Tryz.ntmps42
  go_wp2_with (refine wpList_load_row rfl 102 (.global 1) rfl 1 rfl ty C fr _ hg Tryz.underlying102 rfl hi ?_)
  clear hg hi
  go_loopw [8] (fun x wr => ∃ k : Nat, x = .int .i64 (k : Int) ∧ k ≤ 7 ∧ Hid (nmd s (7 - k) k = R) ∧ Hid (Below w.heap.size w wr)) (fun x _ => 7 - (intOf x).toNat)
  case atStart => exact ⟨0, rfl, by omega, HR, Below.refl _ _⟩
  case round =>
    obtain ⟨k, rfl, hk, HK, HBr⟩ := hrel
    by_cases hk7 : k < 7
    · have hix := HIX.out k hk7
      have hw := HK.out
      rw [show 7 - k = (6 - k) + 1 by omega, nmd] at hw
      unfold hitA hitE at hw
      have HB1 : Hid (Below w.heap.size w (wr.alloc (.cells #[.string (sp (3 * k)), .string (sp (3 * k + 1)), .string (sp (3 * k + 2))] 101))) := HBr.out.alloc HBr.out.size _
      have HX : Hid (6 - k = 7 - (k + 1)) := by show _ = _; omega
      generalize sp (3 * k) = a at hix hw HB1
      generalize sp (3 * k + 1) = b at hix hw HB1
      generalize sp (3 * k + 2) = c at hix HB1
      clear HIX
      cases ha : (s.toList == a.toList) with
      | true =>
        rw [ha, if_pos rfl] at hw
        subst hw
        go_wp2
        exact bodyPost_ret (v := .tuple #[.int .i64 (k : Int), .bool false, .bool true]) (by simp [results, Tryz.results42, go_sem]) rfl ⟨rfl, HB1⟩
      | false =>
        rw [ha, if_neg (by decide)] at hw
        cases hb : (s.toList == b.toList) with
        | true =>
          cases hc : (b.toList == []) with
          | true =>
            rw [hb, hc, if_neg (by decide)] at hw
            have HW : Hid (nmd s (7 - (k + 1)) (k + 1) = R) := HX.out ▸ hw
            clear hw
            go_wp2
            exact ⟨⟨k + 1, by simp, by omega, HW, HB1⟩, by simp [intOf]; omega⟩
          | false =>
            rw [hb, hc, if_pos (by decide)] at hw
            subst hw
            go_wp2
            exact bodyPost_ret (v := .tuple #[.int .i64 (k : Int), .bool true, .bool true]) (by simp [results, Tryz.results42, go_sem]) rfl ⟨rfl, HB1⟩
        | false =>
          rw [hb, if_neg (by simp)] at hw
          have HW : Hid (nmd s (7 - (k + 1)) (k + 1) = R) := HX.out ▸ hw
          clear hw
          go_wp2
          exact ⟨⟨k + 1, by simp, by omega, HW, HB1⟩, by simp [intOf]; omega⟩
    · obtain rfl : k = 7 := by omega
      have hR : R = none := HK.out.symm
      subst hR
      clear HK HR
      go_wp2
      exact bodyPost_ret (v := .tuple #[.int .i64 0, .bool false, .bool false]) (by simp [results, Tryz.results42, go_sem]) rfl ⟨rfl, HBr⟩
end Go.Proofs.YtegfgbcimlacbaaGreatDoor
