import Derived.Test.YtdggplhkeekdjaaGreatDoorNk
import Derived.Test.YtdggplhkeekdjaaGreatDoorNo
import Derived.Laws.AppendOwnNone
/-
  DERIVED. copyConfig; Clone.
-/
namespace Go.Proofs.YtdggplhkeekdjaaGreatDoor.Ck
open Go Go.Proofs Go.RowKit

/-- What a block holds. -/
def Bk (W : World) (b : Nat) (C : Array Value) (t : TypeId) : Prop := W.heap[b]? = some (.cells C t (0, 0))
theorem Bk.lt {W : World} {b : Nat} {C : Array Value} {t : TypeId} (h : Bk W b C t) : b < W.heap.size := (Array.getElem?_eq_some_iff.1 h).1
theorem Bk.cell {W : World} {b : Nat} {C : Array Value} {t : TypeId} (h : Bk W b C t) {i : Nat} {v : Value} (hv : C[i]? = some v) : W.cell? ⟨b, i, none⟩ = some v := by
  unfold Bk at h
  simp [World.cell?, h, hv]
theorem Bk.fz {W : World} {b : Nat} {C : Array Value} {t : TypeId} (h : Bk W b C t) (i : Nat) : W.frozen? ⟨b, i, none⟩ = false := by
  unfold Bk at h
  simp [World.frozen?, h]
theorem Bk.on {X Y : World} {b : Nat} {C : Array Value} {t : TypeId} (h : Bk X b C t) (hb : Below X.heap.size X Y) : Bk Y b C t := (hb.block b h.lt).trans h
theorem Bk.new (w : World) (C : Array Value) (t : TypeId) : Bk (w.alloc (.cells C t)) w.heap.size C t := by
  unfold Bk World.alloc
  exact Array.getElem?_push_size
theorem Bk.alloc {W : World} {b : Nat} {C : Array Value} {t : TypeId} (h : Bk W b C t) (o : Obj) : Bk (W.alloc o) b C t := h.on ((Below.refl _ _).alloc (Nat.le_refl _) _)
theorem Bk.set {W : World} {b : Nat} {C : Array Value} {t : TypeId} (h : Bk W b C t) (i : Nat) (v : Value) : Bk (W.setCell ⟨b, i, none⟩ v) b (C.setIfInBounds i v) t := by
  have hl := h.lt
  unfold Bk at h ⊢
  simp [World.setCell, h, Array.getElem?_modify]
theorem Bk.off {W : World} {b : Nat} {C : Array Value} {t : TypeId} (h : Bk W b C t) {c i : Nat} (hne : c ≠ b) (v : Value) : Bk (W.setCell ⟨c, i, none⟩ v) b C t := by
  unfold Bk at h ⊢
  rw [Below.heap_setCell _ _ _ b (fun e => hne e.symm)]
  exact h
theorem infoS : (Tryz.prog.info? 9).map (fun i => (i.zero, i.size, i.bytes)) = some (some (.string { data := #[] }), 1, 16) := by kernel_rfl
theorem infoY : (Tryz.prog.info? 48).map (fun i => (i.zero, i.size, i.bytes)) = some (some (.int .i64 0), 1, 8) := by kernel_rfl
def i8s (l : List Int) : List Value := l.map (Value.int .i64)
/-- Texts lie in a row, from any place on. -/
def TxD (X : World) (ao : Option Addr) (T : List ByteArray) : Prop := ∀ i (h : i < T.length), ∃ g o, ao = some ⟨g, o, none⟩ ∧ X.cell? ⟨g, o + i, none⟩ = some (.string T[i])
def IxD (X : World) (ao : Option Addr) (l : List Int) : Prop := ∀ i (h : i < l.length), ∃ g o, ao = some ⟨g, o, none⟩ ∧ X.cell? ⟨g, o + i, none⟩ = some (.int .i64 l[i])
theorem TxD.on {X Y : World} {ao : Option Addr} {T : List ByteArray} (h : TxD X ao T) (hb : Below X.heap.size X Y) : TxD Y ao T := fun i hi => by
  obtain ⟨g, o, h1, h2⟩ := h i hi
  exact ⟨g, o, h1, (hb.cell (clt h2)).trans h2⟩
theorem IxD.on {X Y : World} {ao : Option Addr} {l : List Int} (h : IxD X ao l) (hb : Below X.heap.size X Y) : IxD Y ao l := fun i hi => by
  obtain ⟨g, o, h1, h2⟩ := h i hi
  exact ⟨g, o, h1, (hb.cell (clt h2)).trans h2⟩
theorem own_form {w : World} {base : Nat} {e : TypeId} {v : Value} {n : Nat} {xs : List Value} (h : w.ownsRow base e 1 v n xs) : ∃ ao cp, v = .slice ao n cp := by
  rcases h.2 with ⟨rfl, rfl⟩ | ⟨g, cap, cur, rfl, _⟩
  · exact ⟨_, _, rfl⟩
  · exact ⟨_, _, rfl⟩
theorem add_eq (g o j : Nat) : (⟨g, o, none⟩ : Addr).add j = ⟨g, o + j, none⟩ := by
  unfold Addr.add
  split
  · next h => subst h; rfl
  · rfl
theorem grown_nil {w w' : World} (h : w.grownBy w' (Value.slice none 0 0).ownBlock) : Below w.heap.size w w' := Nv.below_of_grownBy h
/-- All of a row of texts, appended to nil. -/
theorem app_texts {w : World} {ops : Array Oper} {rest : List Oper} {o : Oper} {a : Act} {Q : Exit → Act → World → Prop} (hgd : o.guard = none) (x : Operand)
    (ho : o.op = .call { callee := .builtin .append, args := #[.const (.slice none 0 0), x], argTypes := #[22, 22] }) (ao : Option Addr) (n cp : Nat) (T : List ByteArray)
    (hx : a.eval x = .slice ao n cp) (hn : T.length = n) (hT : TxD w ao T) (hao : ao = none → n = 0 ∧ cp = 0) (hN : n * 16 ≤ 140737488355328)
    (h : ∀ ao' cp' w', w'.ownsRow w.heap.size 9 1 (.slice ao' n cp') n (Sp.u8s T) → Below w.heap.size w w' → wpList Tryz.prog ops Q rest (a.put o.dst (.slice ao' n cp')) w') : wpList Tryz.prog ops Q (o :: rest) a w := by
  obtain ⟨i0, hi, hz⟩ := Option.map_eq_some_iff.1 infoS
  obtain ⟨hz0, hz1, hz2⟩ : i0.zero = some (.string { data := #[] }) ∧ i0.size = 1 ∧ i0.bytes = 16 := by simpa using hz
  cases ao with
  | none =>
    obtain ⟨rfl, rfl⟩ := hao rfl
    obtain rfl : T = [] := List.eq_nil_of_length_eq_zero hn
    refine wpList_append_own_none hgd (.const (.slice none 0 0)) x 22 ho w.heap.size 9 i0 1 Tryz.underlying22 hi (.slice none 0 0) 0 [] rfl (World.ownsRow_nil _ _ _ _) hx ?_
    exact h none 0 w (World.ownsRow_nil _ _ _ _) (Below.refl _ _)
  | some ad =>
    refine wpList_append_own w hgd (.const (.slice none 0 0)) x 22 ho w.heap.size 9 i0 _ 1 16 Tryz.underlying22 hi hz0 hz1 hz2 rfl (by decide) (.slice none 0 0) 0 [] rfl (World.ownsRow_nil _ _ _ _) ad n cp (Sp.u8s T) hx (by rw [Sp.u8s_length, hn, Nat.mul_one]) (fun j u hu => ?_) (fun u hu => ?_) (by simp only [maxLen]; omega) (by omega) (Nat.le_refl _) (fun v' w' h1 h2 _ => ?_)
    · have hj : j < T.length := by rw [← Sp.u8s_length]; exact (List.getElem?_eq_some_iff.1 hu).1
      obtain ⟨g, o', e1, e2⟩ := hT j hj
      obtain rfl : ad = ⟨g, o', none⟩ := by simpa using e1
      rw [Sp.u8s_getE T j hj] at hu
      rw [← hu]
      rw [add_eq]
      exact e2
    · obtain ⟨t, _, rfl⟩ := List.mem_map.1 hu
      rfl
    · rw [Nat.zero_add, List.nil_append] at h1
      obtain ⟨ao', cp', rfl⟩ := own_form h1
      exact h ao' cp' w' h1 (grown_nil h2)
theorem app_ints {w : World} {ops : Array Oper} {rest : List Oper} {o : Oper} {a : Act} {Q : Exit → Act → World → Prop} (hgd : o.guard = none) (x : Operand)
    (ho : o.op = .call { callee := .builtin .append, args := #[.const (.slice none 0 0), x], argTypes := #[23, 23] }) (ao : Option Addr) (n cp : Nat) (l : List Int)
    (hx : a.eval x = .slice ao n cp) (hn : l.length = n) (hT : IxD w ao l) (hao : ao = none → n = 0 ∧ cp = 0) (hN : n * 8 ≤ 140737488355328)
    (h : ∀ ao' cp' w', w'.ownsRow w.heap.size 48 1 (.slice ao' n cp') n (i8s l) → Below w.heap.size w w' → wpList Tryz.prog ops Q rest (a.put o.dst (.slice ao' n cp')) w') : wpList Tryz.prog ops Q (o :: rest) a w := by
  obtain ⟨i0, hi, hz⟩ := Option.map_eq_some_iff.1 infoY
  obtain ⟨hz0, hz1, hz2⟩ : i0.zero = some (.int .i64 0) ∧ i0.size = 1 ∧ i0.bytes = 8 := by simpa using hz
  cases ao with
  | none =>
    obtain ⟨rfl, rfl⟩ := hao rfl
    obtain rfl : l = [] := List.eq_nil_of_length_eq_zero hn
    refine wpList_append_own_none hgd (.const (.slice none 0 0)) x 23 ho w.heap.size 48 i0 1 Tryz.underlying23 hi (.slice none 0 0) 0 [] rfl (World.ownsRow_nil _ _ _ _) hx ?_
    exact h none 0 w (World.ownsRow_nil _ _ _ _) (Below.refl _ _)
  | some ad =>
    refine wpList_append_own w hgd (.const (.slice none 0 0)) x 23 ho w.heap.size 48 i0 _ 1 8 Tryz.underlying23 hi hz0 hz1 hz2 rfl (by decide) (.slice none 0 0) 0 [] rfl (World.ownsRow_nil _ _ _ _) ad n cp (i8s l) hx (by simp [i8s, hn]) (fun j u hu => ?_) (fun u hu => ?_) (by simp only [maxLen]; omega) (by omega) (Nat.le_refl _) (fun v' w' h1 h2 _ => ?_)
    · have hj : j < l.length := by have := (List.getElem?_eq_some_iff.1 hu).1; simpa [i8s] using this
      obtain ⟨g, o', e1, e2⟩ := hT j hj
      obtain rfl : ad = ⟨g, o', none⟩ := by simpa using e1
      rw [show (i8s l)[j]? = some (.int .i64 l[j]) by simp [i8s, hj]] at hu
      rw [← hu]
      rw [add_eq]
      exact e2
    · obtain ⟨t, _, rfl⟩ := List.mem_map.1 hu
      rfl
    · rw [Nat.zero_add, List.nil_append] at h1
      obtain ⟨ao', cp', rfl⟩ := own_form h1
      exact h ao' cp' w' h1 (grown_nil h2)
end Go.Proofs.YtdggplhkeekdjaaGreatDoor.Ck
