import Derived.Test.YtnamkcfmbefkfaaDoorU
import Derived.Deep.Cut
import Derived.Deep.RegionWith
import Derived.BigQuiet
import Derived.Deep.RegionHeld3
namespace Go.Proofs.YtnamkcfmbefkfaaDoor
open Go Go.Proofs Go.RowKit
end Go.Proofs.YtnamkcfmbefkfaaDoor

namespace Go.Proofs.YtnamkcfmbefkfaaDoor
open Go Go.Proofs Go.RowKit
theorem setRow_other (W : World) (g : Nat) (vs : Array Value) (b : Nat) (hb : b ≠ g) : (W.setRow g vs).heap[b]? = W.heap[b]? := by
  show (W.heap.modify g _)[b]? = _
  rw [Array.getElem?_modify]
  rw [if_neg (Ne.symm hb)]
end Go.Proofs.YtnamkcfmbefkfaaDoor

namespace Go.Proofs.YtnamkcfmbefkfaaDoor
open Go Go.Proofs Go.RowKit
end Go.Proofs.YtnamkcfmbefkfaaDoor

namespace Go.Proofs.YtnamkcfmbefkfaaDoor
open Go Go.Proofs Go.RowKit
end Go.Proofs.YtnamkcfmbefkfaaDoor

namespace Go.Proofs.YtnamkcfmbefkfaaDoor
open Go Go.Proofs Go.RowKit
end Go.Proofs.YtnamkcfmbefkfaaDoor

namespace Go.Proofs.YtnamkcfmbefkfaaDoor
open Go Go.Proofs Go.RowKit
end Go.Proofs.YtnamkcfmbefkfaaDoor

namespace Go.Proofs.YtnamkcfmbefkfaaDoor
open Go Go.Proofs Go.RowKit
end Go.Proofs.YtnamkcfmbefkfaaDoor

namespace Go.Proofs.YtnamkcfmbefkfaaDoor
open Go Go.Proofs Go.RowKit
end Go.Proofs.YtnamkcfmbefkfaaDoor

namespace Go.Proofs.YtnamkcfmbefkfaaDoor
open Go Go.Proofs Go.RowKit
end Go.Proofs.YtnamkcfmbefkfaaDoor

namespace Go.Proofs.YtnamkcfmbefkfaaDoor
open Go Go.Proofs Go.RowKit
end Go.Proofs.YtnamkcfmbefkfaaDoor

namespace Go.Proofs.YtnamkcfmbefkfaaDoor
open Go Go.Proofs Go.RowKit
end Go.Proofs.YtnamkcfmbefkfaaDoor

namespace Go.Proofs.YtnamkcfmbefkfaaDoor
open Go Go.Proofs Go.RowKit
end Go.Proofs.YtnamkcfmbefkfaaDoor

namespace Go.Proofs.YtnamkcfmbefkfaaDoor
open Go Go.Proofs Go.RowKit
end Go.Proofs.YtnamkcfmbefkfaaDoor

namespace Go.Proofs.YtnamkcfmbefkfaaDoor
open Go Go.Proofs Go.RowKit
theorem Hid.mk' {p : Prop} (h : p) : Hid p := h
end Go.Proofs.YtnamkcfmbefkfaaDoor

namespace Go.Proofs.YtnamkcfmbefkfaaDoor
open Go Go.Proofs Go.RowKit
end Go.Proofs.YtnamkcfmbefkfaaDoor

namespace Go.Proofs.YtnamkcfmbefkfaaDoor
open Go Go.Proofs Go.RowKit
end Go.Proofs.YtnamkcfmbefkfaaDoor

namespace Go.Proofs.YtnamkcfmbefkfaaDoor
open Go Go.Proofs Go.RowKit
set_option maxRecDepth 100000 in
set_option maxHeartbeats 2000000 in
theorem bytes_same (W : World) (a b : Value) (bs : List Nat) (hn : bs.length ≤ 140737488351232) (ha : V W a bs) (hb : V W b bs) :
    Calls Tryd.prog 21 #[a, b] W fun e w' => e = .returned (.bool true) ∧ ∃ m, w' = W.drewN m := by
  obtain ⟨aa, ca, rfl, h3, hx⟩ := ha.form
  obtain ⟨ab, cb, rfl, h4, _⟩ := hb.form
  obtain ⟨n, hn'⟩ : ∃ n, bs.length = n := ⟨_, rfl⟩
  have HA : Hid _ := h3
  have HB : Hid _ := h4
  have HX : Hid _ := hx
  rw [hn'] at hn ⊢
  have HN : Hid (bs.length = n) := hn'
  clear h3 h4 ha hb hn' hx
  go_enter Tryd.func21, Tryd.ntmps21
  go_wp2
  go_loopg [5] n (fun g s5 wx => ∃ i : Nat, s5 = .int .i64 (i : Int) ∧ g + i = n ∧ ∃ m, wx = W.drewN m)
  case atStart => exact ⟨0, rfl, by omega, 0, rfl⟩
  case round =>
    obtain ⟨i, rfl, hgi, m, rfl⟩ := hrel
    by_cases hin : i < n
    · have hI : (i : Int) < (n : Int) := by omega
      obtain ⟨ba, oa, rfl, ka⟩ := HA.out (by rw [HN.out]; omega)
      obtain ⟨bb, ob, rfl, kb⟩ := HB.out (by rw [HN.out]; omega)
      have ka := ka.1 i (by rw [HN.out]; exact hin)
      have kb := kb.1 i (by rw [HN.out]; exact hin)
      generalize bs.getD i 0 = x at ka kb
      go_wp2
      go_quiet (fail)
      go_wp2
      go_roundg (n - (i + 1))
      case rel => exact ⟨i + 1, by go_num, by omega, _, rfl⟩
      case measure => omega
    · have hI : ¬ (i : Int) < (n : Int) := by omega
      go_wp2
      go_ret
      exact ⟨rfl, _, rfl⟩
set_option maxRecDepth 100000 in
set_option maxHeartbeats 2000000 in
theorem texts_same (W : World) (a b : Value) (T : List ByteArray) (ha : TR W a T) (hb : TR W b T) :
    Calls Tryd.prog 20 #[a, b] W fun e w' => e = .returned (.bool true) ∧ ∃ m, w' = W.drewN m := by
  obtain ⟨aa, ca, rfl, h3, hn, _⟩ := ha
  obtain ⟨ab, cb, rfl, h4, _, _⟩ := hb
  obtain ⟨n, hn'⟩ : ∃ n, T.length = n := ⟨_, rfl⟩
  have HA : Hid _ := h3
  have HB : Hid _ := h4
  rw [hn'] at hn ⊢
  have HN : Hid (T.length = n) := hn'
  clear h3 h4 hn'
  go_enter Tryd.func20, Tryd.ntmps20
  go_wp2
  go_loopg [5] n (fun g s5 wx => ∃ i : Nat, s5 = .int .i64 (i : Int) ∧ g + i = n ∧ ∃ m, wx = W.drewN m)
  case atStart => exact ⟨0, rfl, by omega, 0, rfl⟩
  case round =>
    obtain ⟨i, rfl, hgi, m, rfl⟩ := hrel
    by_cases hin : i < n
    · have hI : (i : Int) < (n : Int) := by omega
      obtain ⟨ba, oa, rfl, ka⟩ := HA.out (by rw [HN.out]; omega)
      obtain ⟨bb, ob, rfl, kb⟩ := HB.out (by rw [HN.out]; omega)
      have ka := ka i (by rw [HN.out]; exact hin)
      have kb := kb i (by rw [HN.out]; exact hin)
      obtain ⟨x, hx⟩ : ∃ x, T[i]'(by rw [HN.out]; exact hin) = x := ⟨_, rfl⟩
      rw [hx] at ka kb
      clear hx
      go_wp2
      go_quiet (fail)
      go_wp2
      go_roundg (n - (i + 1))
      case rel => exact ⟨i + 1, by go_num, by omega, _, rfl⟩
      case measure => omega
    · have hI : ¬ (i : Int) < (n : Int) := by omega
      go_wp2
      go_ret
      exact ⟨rfl, _, rfl⟩
structure TyC (c : Fin 18 → Value) : Prop where
  t0 : ∃ x, c 0 = .int .u16 x
  t1 : ∃ x, c 1 = .string x
  t2 : ∃ x, c 2 = .string x
  t3 : ∃ x, c 3 = .string x
  t5 : ∃ x, c 5 = .bool x
  t6 : ∃ x, c 6 = .int .u32 x
  t7 : ∃ x, c 7 = .string x
  t8 : ∃ x, c 8 = .string x
  t9 : ∃ x, c 9 = .bool x
  t10 : ∃ x, c 10 = .int .u16 x
  t11 : ∃ x, c 11 = .int .u16 x
  t14 : ∃ x, c 14 = .int .u8 x
  t15 : ∃ x, c 15 = .int .u8 x
  t16 : ∃ x, c 16 = .int .u8 x
theorem TyC.same {c c' : Fin 18 → Value} (h : TyC c) (hs : SameC c c') : TyC c' := by
  refine ⟨?_, ?_, ?_, ?_, ?_, ?_, ?_, ?_, ?_, ?_, ?_, ?_, ?_, ?_⟩
  · rw [hs 0 (by decide) (by decide) (by decide) (by decide)]; exact h.t0
  · rw [hs 1 (by decide) (by decide) (by decide) (by decide)]; exact h.t1
  · rw [hs 2 (by decide) (by decide) (by decide) (by decide)]; exact h.t2
  · rw [hs 3 (by decide) (by decide) (by decide) (by decide)]; exact h.t3
  · rw [hs 5 (by decide) (by decide) (by decide) (by decide)]; exact h.t5
  · rw [hs 6 (by decide) (by decide) (by decide) (by decide)]; exact h.t6
  · rw [hs 7 (by decide) (by decide) (by decide) (by decide)]; exact h.t7
  · rw [hs 8 (by decide) (by decide) (by decide) (by decide)]; exact h.t8
  · rw [hs 9 (by decide) (by decide) (by decide) (by decide)]; exact h.t9
  · rw [hs 10 (by decide) (by decide) (by decide) (by decide)]; exact h.t10
  · rw [hs 11 (by decide) (by decide) (by decide) (by decide)]; exact h.t11
  · rw [hs 14 (by decide) (by decide) (by decide) (by decide)]; exact h.t14
  · rw [hs 15 (by decide) (by decide) (by decide) (by decide)]; exact h.t15
  · rw [hs 16 (by decide) (by decide) (by decide) (by decide)]; exact h.t16
end Go.Proofs.YtnamkcfmbefkfaaDoor
