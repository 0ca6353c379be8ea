import Derived.Test.YtnamkcfmbefkfaaDoorVh
import Derived.Test.YtnamkcfmbefkfaaDoorVj
import Derived.Test.YtnamkcfmbefkfaaDoorNc
namespace Go.Proofs.YtnamkcfmbefkfaaDoor
open Go Go.Proofs Go.RowKit
end Go.Proofs.YtnamkcfmbefkfaaDoor

namespace Go.Proofs.YtnamkcfmbefkfaaDoor
open Go Go.Proofs Go.RowKit
theorem infoPdu : (Tryd.prog.info? 33).map (fun i => (i.zero, i.size, i.bytes)) = some (some (.agg (Pd 0 zc)), 19, 216) := by kernel_rfl
theorem fillP (k : Int) (c : Fin 18 → Value) : Go.Instr.fill (fun i => some (i * 19, 19)) (Array.map (fun x => (Value.agg (Pd 0 zc)).cells[x % (Value.agg (Pd 0 zc)).cells.size]!) (Array.range (1 * 19))) [(0, .agg (Pd k c))] = some (Pd k c) := by kernel_rfl
theorem sliceP {ops : Array Oper} {rest : List Oper} {o : Oper} {a : Act} {w : World} {Q : Exit → Act → World → Prop} (hg : o.guard = none) (x : Operand) (ho : o.op = .buildSlice 48 1 #[(0, x)]) (RQ : Array Value) (k : Int) (c : Fin 18 → Value) (hR : Pd k c = RQ) (hx : a.eval x = .agg RQ)
    (h : wpList Tryd.prog ops Q rest (a.put o.dst (.slice (some ⟨w.heap.size, 0, none⟩) 1 1)) (w.alloc (.cells RQ 33))) : wpList Tryd.prog ops Q (o :: rest) a w := by
  obtain ⟨i, hi, hz, hs, -⟩ := info_parts infoPdu
  subst hR
  refine wpList_buildSlice hg 48 33 1 #[(0, x)] ho (Pd k c) i (.agg (Pd 0 zc)) Tryd.underlying48 hi hz (by rw [hs]; decide) (by rw [hs]; decide) ?_ h
  rw [hs]
  simp only [List.map_toArray, List.map_cons, List.map_nil, hx]
  exact fillP k c
def Rw (W : World) (B m : Nat) (v : Value) (k : Nat → Int) (c : Nat → Fin 18 → Value) : Prop := ∃ xs, W.ownsRow B 33 19 v m xs ∧ ∀ j, j < m → ∀ i u, (Pd (k j) (c j)).toList[i]? = some u → xs[j * 19 + i]? = some u
theorem Rw.keep {W W' : World} {B m : Nat} {v : Value} {k : Nat → Int} {c : Nat → Fin 18 → Value} (h : Rw W B m v k c) (hk : ∀ b, v.ownBlock = some b → W'.heap[b]? = W.heap[b]?) : Rw W' B m v k c := by
  obtain ⟨xs, h1, h2⟩ := h
  exact ⟨xs, owns_same h1 hk, h2⟩
theorem Rw.pl {W : World} {B m : Nat} {v : Value} {k : Nat → Int} {c : Nat → Fin 18 → Value} {F : Nat → Prop} (h : Rw W B m v k c) (hF : ∀ b, v.ownBlock = some b → ¬ F b) : PL W F v m k c := by
  obtain ⟨xs, h1, h2⟩ := h
  rcases h1.2 with ⟨rfl, h0⟩ | ⟨g, cap, cur, rfl, _⟩
  · exact ⟨none, 0, by rw [h0], fun hp => by omega⟩
  · refine ⟨_, cap, rfl, fun _ => ⟨g, rfl, hF g rfl, fun j hj i u hu => ?_⟩⟩
    have h3 := h2 j hj i u hu
    have := (List.getElem?_eq_some_iff.1 h3).1
    rw [h1.cellAt _ (by have := h1.1; omega)]
    exact h3
theorem rw_push {W' : World} {B m : Nat} {v' : Value} {k : Nat → Int} {c : Nat → Fin 18 → Value} {xs : List Value} (hl : xs.length = m * 19) (hc : ∀ j, j < m → ∀ i u, (Pd (k j) (c j)).toList[i]? = some u → xs[j * 19 + i]? = some u) (ho : W'.ownsRow B 33 19 v' (m + 1) (xs ++ (Pd (k m) (c m)).toList)) : Rw W' B (m + 1) v' k c := by
  refine ⟨_, ho, fun j hj i u hu => ?_⟩
  by_cases hjm : j < m
  · have h3 := hc j hjm i u hu
    rw [List.getElem?_append_left (List.getElem?_eq_some_iff.1 h3).1]
    exact h3
  · obtain rfl : j = m := by omega
    rw [List.getElem?_append_right (by omega), show j * 19 + i - xs.length = i by omega]
    exact hu
end Go.Proofs.YtnamkcfmbefkfaaDoor

namespace Go.Proofs.YtnamkcfmbefkfaaDoor
open Go Go.Proofs Go.RowKit
theorem range_same {w w' : World} {q o : Nat} {cs : List Value} (h : w.rangeAt q o cs) (hk : w'.heap[q]? = w.heap[q]?) : w'.rangeAt q o cs := fun j v hv => (World.cell?_of_block hk).trans (h j v hv)
end Go.Proofs.YtnamkcfmbefkfaaDoor

namespace Go.Proofs.YtnamkcfmbefkfaaDoor
open Go Go.Proofs Go.RowKit
theorem wpList_load_midG {P : Program} {ops : Array Oper} {rest : List Oper} {op : Oper} {a : Act} {w : World} {Q : Exit → Act → World → Prop} (hw : Region.wanted op (yielded ops a.tmps) = true) (ty : TypeId) (x : Operand) (ho : op.op = .load ty x)
    (b o : Nat) (hx : a.eval x = .pointer (some ⟨b, o, none⟩)) (cs : List Value) (d : TypeDesc) (hc : w.rangeAt b o cs)
    (hu : P.underlying ty = some d) (hd : d.isRow = true) (hi : (P.info? ty).map (·.size) = some cs.length)
    (h : wpList P ops Q rest (a.put op.dst (.agg cs.toArray)) w) : wpList P ops Q (op :: rest) a w := by
  simp only [wpList, hw, if_true]
  exact .inl (wp_load_mid ty x ho b o hx cs d hc hu hd hi h)
end Go.Proofs.YtnamkcfmbefkfaaDoor

/-
  DERIVED. Who may call; lengths; rejections.
-/
namespace Go.Proofs.YtnamkcfmbefkfaaDoor
open Go Go.Proofs Go.RowKit

def mayB (s : ByteArray) (T : List ByteArray) : Bool := anyT s T || decide (T.length = 0)
theorem tr_drew {w : World} {v : Value} {T : List ByteArray} (h : TR w v T) (m : Nat) : TR (w.drewN m) v T := h.on ⟨rfl, rfl, rfl, Nat.le_refl _, fun _ _ => rfl⟩
set_option maxRecDepth 100000 in
set_option maxHeartbeats 2000000 in
theorem mayCall_any (w : World) (s : ByteArray) (T : List ByteArray) (v : Value) (hv : TR w v T) (hs : s.size ≤ 140737488351232) (hT : ∀ x ∈ T, x.size ≤ 140737488351232) : Calls Tryd.prog 27 #[.string s, v] w fun e w' => e = .returned (.bool (mayB s T)) ∧ ∃ m, w' = w.drewN m := by
  obtain ⟨ao, cap, rfl, hf, hz, -⟩ := hv
  obtain ⟨n, hn⟩ : ∃ n, T.length = n := ⟨_, rfl⟩
  have HF : Hid _ := hf
  have HN : Hid (T.length = n ∧ ∀ x ∈ T, x.size ≤ 140737488351232) := ⟨hn, hT⟩
  have hnz : n ≤ 140737488351232 := by omega
  rw [hn]
  clear hf hn hz hT
  go_enter Tryd.func27, Tryd.ntmps27
  go_wp2
  go_loopg [9] n (fun g x wx => ∃ i : Nat, x = .int .i64 (i : Int) ∧ g + i = n ∧ Hid (anyT s (T.take i) = false) ∧ ∃ m, wx = w.drewN m)
  case atStart => exact ⟨0, rfl, by omega, rfl, 0, rfl⟩
  case round =>
    obtain ⟨i, rfl, hgi, HA, m, rfl⟩ := hrel
    by_cases hin : i < n
    · have hI : (i : Int) < (n : Int) := by omega
      have hil : i < T.length := by rw [HN.out.1]; exact hin
      obtain ⟨b, off, rfl, he⟩ := HF.out (by omega)
      have hc : (w.drewN m).cell? ⟨b, off + i, none⟩ = some (.string T[i]) := he i hil
      have hca := sameT_any (w.drewN m) s T[i] hs (HN.out.2 _ (List.getElem_mem hil))
      have HB : Hid (anyT s (T.take (i + 1)) = sameT s T[i]) := by
        show _ = _
        rw [anyT_take s T i hil, HA.out, Bool.false_or]
      have HC : Hid (sameT s T[i] = true → anyT s T = true) := fun h => by
        show T.any _ = true
        exact List.any_eq_true.2 ⟨_, List.getElem_mem hil, h⟩
      clear he
      generalize T[i] = t at hc hca HB HC
      cases hst : sameT s t
      · rw [hst] at hca
        have HB' : Hid (anyT s (T.take (i + 1)) = false) := by show _ = _; rw [HB.out, hst]
        clear HB HC hst
        go_wp2_with (go_at_call 26; refine hca.mono ?_; refine Fr.Stop.mk ?_)
        rintro x W2 ⟨rfl, m2, rfl⟩
        go_wp2
        go_roundg (n - (i + 1))
        case rel => exact ⟨i + 1, by go_num, by omega, HB'.out, _, rfl⟩
        case measure => omega
      · rw [hst] at hca
        have HB' : Hid (mayB s T = true) := by show _ = _; rw [mayB, HC.out hst, Bool.true_or]
        clear HB HC hst
        go_wp2_with (go_at_call 26; refine hca.mono ?_; refine Fr.Stop.mk ?_)
        rintro x W2 ⟨rfl, m2, rfl⟩
        go_wp2
        go_ret
        exact ⟨by rw [HB'.out]; rfl, _, rfl⟩
    · have hI : ¬ (i : Int) < (n : Int) := by omega
      obtain rfl : i = n := by omega
      have HB : Hid (mayB s T = ((i : Int) == 0)) := by
        show _ = _
        have h1 := HA.out
        rw [List.take_of_length_le (by rw [HN.out.1]; exact Nat.le_refl _)] at h1
        rw [mayB, h1, HN.out.1, Bool.false_or]
        by_cases h : i = 0
        · subst h; rfl
        · rw [decide_eq_false h]; symm; simp; omega
      go_wp2
      go_ret
      exact ⟨by rw [HB.out]; rfl, _, rfl⟩
/-- What the other side told of its greatest length. -/
def toldN (h : Bool) (m : Int) : Int := if h = true then m else 0
def shortB (h : Bool) (m : Int) : Bool := decide (0 < toldN h m) && decide (toldN h m < 64)
def mostN (h : Bool) (m : Int) : Int := if toldN h m = 0 ∨ 16384 < toldN h m then 16384 else toldN h m
set_option maxRecDepth 100000 in
theorem told_any (w : World) (g o : Nat) (h : Bool) (m : Int) (h0 : w.cell? ⟨g, o, none⟩ = some (.bool h)) (h1 : w.cell? ⟨g, o + 1, none⟩ = some (.int .u32 m)) : Calls Tryd.prog 31 #[.pointer (some ⟨g, o, none⟩)] w fun e w' => e = .returned (.int .u32 (toldN h m)) ∧ w' = w := by
  unfold toldN
  go_enter Tryd.func31, Tryd.ntmps31
  cases h
  all_goals go_wp2
  all_goals go_ret
  all_goals exact ⟨rfl, rfl⟩
set_option maxRecDepth 100000 in
theorem short_any (w : World) (g o : Nat) (h : Bool) (m : Int) (h0 : w.cell? ⟨g, o, none⟩ = some (.bool h)) (h1 : w.cell? ⟨g, o + 1, none⟩ = some (.int .u32 m)) : Calls Tryd.prog 28 #[.pointer (some ⟨g, o, none⟩)] w fun e w' => e = .returned (.bool (shortB h m)) ∧ w' = w := by
  unfold shortB
  have hc := told_any w g o h m h0 h1
  generalize toldN h m = t at hc ⊢
  clear h0 h1
  by_cases h2 : 0 < t
  · have h2' : t > 0 := h2
    rw [decide_eq_true h2, Bool.true_and]
    go_enter Tryd.func28, Tryd.ntmps28
    go_wp2_with (go_at_call 31; refine hc.mono ?_; rintro _ _ ⟨rfl, rfl⟩)
    all_goals go_ret
    all_goals exact ⟨rfl, rfl⟩
  · have h2' : ¬ t > 0 := h2
    rw [decide_eq_false h2, Bool.false_and]
    go_enter Tryd.func28, Tryd.ntmps28
    go_wp2_with (go_at_call 31; refine hc.mono ?_; rintro _ _ ⟨rfl, rfl⟩)
    go_ret
    exact ⟨rfl, rfl⟩
set_option maxRecDepth 100000 in
theorem most_any (w : World) (g o : Nat) (h : Bool) (m : Int) (hm : 0 ≤ m ∧ m ≤ 4294967295) (h0 : w.cell? ⟨g, o, none⟩ = some (.bool h)) (h1 : w.cell? ⟨g, o + 1, none⟩ = some (.int .u32 m)) : Calls Tryd.prog 15 #[.pointer (some ⟨g, o, none⟩)] w fun e w' => e = .returned (.int .i64 (mostN h m)) ∧ w' = w := by
  unfold mostN
  have hc := told_any w g o h m h0 h1
  have ht : 0 ≤ toldN h m ∧ toldN h m ≤ 4294967295 := by unfold toldN; split <;> omega
  generalize toldN h m = t at hc ht ⊢
  clear h0 h1
  by_cases h2 : t = 0
  · subst h2
    rw [if_pos (.inl rfl)]
    go_enter Tryd.func15, Tryd.ntmps15
    go_wp2_with (go_at_call 31; refine hc.mono ?_; rintro _ _ ⟨rfl, rfl⟩)
    go_ret
    exact ⟨rfl, rfl⟩
  · by_cases h3 : 16384 < t
    · have h3' : t > 16384 := h3
      rw [if_pos (.inr h3)]
      go_enter Tryd.func15, Tryd.ntmps15
      go_wp2_with (go_at_call 31; refine hc.mono ?_; rintro _ _ ⟨rfl, rfl⟩)
      go_ret
      exact ⟨rfl, rfl⟩
    · have hb2 : (t == 0) = false := by simp; omega
      have hb3 : decide (16384 < t) = false := decide_eq_false h3
      rw [if_neg (fun h => h.elim h2 h3)]
      have hw : t % 18446744073709551616 = t := by omega
      go_enter Tryd.func15, Tryd.ntmps15
      go_wp2_with (go_at_call 31; refine hc.mono ?_; rintro _ _ ⟨rfl, rfl⟩)
      go_ret
      exact ⟨rfl, rfl⟩
end Go.Proofs.YtnamkcfmbefkfaaDoor
