import Derived.Test.YtnamkcfmbefkfaaDoorNi
import Derived.Test.YtnamkcfmbefkfaaDoorXb
/-
  DERIVED. What is agreed of a row of contexts.
-/
namespace Go.Proofs.YtnamkcfmbefkfaaDoor
open Go Go.Proofs Go.RowKit

/-- The answer to one context, as an element. -/
def ansEl : El → El
  | ⟨[.int .u8 x, _, .string s], .tx T⟩ => ⟨[.int .u8 x, .int .u8 (ansR s T), .string ⟨#[]⟩], .tx (ansT s T)⟩
  | p => p
/-- What is agreed of one context. -/
def agrEl : El → List (Int × ByteArray × Int)
  | ⟨[.int .u8 x, _, .string s], .tx T⟩ => (ansO s T).toList.map fun u => (x, s, syN u)
  | _ => []
def agrs (ps : List El) : List (Int × ByteArray × Int) := ps.flatMap agrEl
def agrV (l : List (Int × ByteArray × Int)) : List Value := l.flatMap fun a => [.int .u8 a.1, .string a.2.1, .int .i64 a.2.2]
theorem agrV_snoc (l : List (Int × ByteArray × Int)) (a : Int × ByteArray × Int) : agrV (l ++ [a]) = agrV l ++ [.int .u8 a.1, .string a.2.1, .int .i64 a.2.2] := by simp [agrV]
theorem agrs_snoc (ps : List El) (p : El) : agrs (ps ++ [p]) = agrs ps ++ agrEl p := by simp [agrs]
theorem agrEl_len (p : El) : (agrEl p).length ≤ 1 := by
  unfold agrEl
  split
  · rename_i s T
    cases ansO s T <;> simp
  · simp
theorem agrs_len : ∀ ps : List El, (agrs ps).length ≤ ps.length
  | [] => by simp [agrs]
  | p :: ps => by
    have h1 := agrs_len ps
    have h2 := agrEl_len p
    show (agrEl p ++ agrs ps).length ≤ _
    simp only [List.length_append, List.length_cons]
    omega
theorem ansT_len (s : ByteArray) (T : List ByteArray) : (ansT s T).length ≤ 1 := by
  unfold ansT
  cases ansO s T <;> simp
theorem ans_form (x : Int) (y : Value) (s : ByteArray) (T : List ByteArray) : ∃ cx cs cn, ansC x s T = ctxC cx cs cn ∧ ((ansR s T = 0 ∧ agrEl ⟨[.int .u8 x, y, .string s], .tx T⟩ = [(cx, cs, cn)]) ∨ (ansR s T ≠ 0 ∧ agrEl ⟨[.int .u8 x, y, .string s], .tx T⟩ = [])) := by
  show ∃ cx cs cn, ansC x s T = ctxC cx cs cn ∧ ((ansR s T = 0 ∧ (ansO s T).toList.map (fun u => (x, s, syN u)) = [(cx, cs, cn)]) ∨ (ansR s T ≠ 0 ∧ (ansO s T).toList.map (fun u => (x, s, syN u)) = []))
  unfold ansC ansR ansO
  by_cases h : svB s = true
  · rw [if_pos h, if_pos h]
    cases hf : firstS T with
    | none => exact ⟨_, _, _, rfl, .inr ⟨by simp, rfl⟩⟩
    | some u => exact ⟨_, _, _, rfl, .inl ⟨by simp, rfl⟩⟩
  · rw [if_neg h, if_neg h]
    exact ⟨_, _, _, rfl, .inr ⟨by decide, rfl⟩⟩
theorem GE.app {base : Nat} {W5 W6 w2 : World} {a7 : Option Addr} {j p7 : Nat} {xs : List Value} {ps : List El} {st g cp : Nat} {e : TypeId} {el : El} {vs : List Value}
    (hG : GE base W5 (.slice a7 j p7) xs ps st) (hj : ps.length = j) (hO : W5.ownsRow base e st (.slice a7 j p7) j xs) (hi : InnO base W5 (.slice a7 j p7) el.inn vs)
    (h6 : ∀ b, b < W5.heap.size → W6.heap[b]? = W5.heap[b]?) (hs6 : W5.heap.size ≤ W6.heap.size)
    (hgrow : W6.grownBy w2 (Value.slice a7 j p7).ownBlock) (hat : (Value.slice a7 j p7).ownBlock = some g ∨ W5.heap.size ≤ g) :
    GE base w2 (.slice (some ⟨g, 0, none⟩) (j + 1) cp) (xs ++ (el.fl ++ vs)) (ps ++ [el]) st := by
  have hl : xs.length = ps.length * st := by rw [hj]; exact hO.1
  refine (hG.push hl hi).move (fun b hb1 hb2 hb3 => ⟨?_, ?_⟩)
  · exact (hgrow.block b (by omega) (by first | exact hb3 | exact Ne.symm hb3)).trans (h6 b hb2)
  · intro e1
    rcases hat with h | h
    · exact hb3 (h.trans e1)
    · have e2 : g = b := by simpa [Value.ownBlock] using e1
      omega
/-- Rows of bytes and of texts stay: then the elements do. -/
theorem InnO.far {base : Nat} {W W' : World} {rv : Value} {i : Inn} {vs : List Value} (h : InnO base W rv i vs) (hk : ∀ (b : Nat) (cur : Array Value) (e : TypeId) (fr : Nat × Nat), e = 9 ∨ e = 5 → W.heap[b]? = some (.cells cur e fr) → W'.heap[b]? = W.heap[b]?) : InnO base W' rv i vs := by
  cases i with
  | no => exact h
  | tx T =>
    obtain ⟨v, h1, h2, h3, h4⟩ := h
    refine ⟨v, h1, owns_same h2 (fun b e => ?_), h3, h4⟩
    obtain ⟨_, _, cur, fr, hc⟩ := own_ty h2 e
    exact hk b cur 9 fr (.inl rfl) hc
  | «by» bs =>
    obtain ⟨v, h1, h2, h3, h4⟩ := h
    refine ⟨v, h1, ⟨owns_same h2.1 (fun b e => ?_), h2.2⟩, h3, h4⟩
    obtain ⟨_, _, cur, fr, hc⟩ := own_ty h2.1 e
    exact hk b cur 5 fr (.inr rfl) hc
theorem OE.far {base : Nat} {W W' : World} {rv : Value} {ps : List El} {st : Nat} {t : TypeId} {Sh : El → Prop} (h : OE base W rv ps st t Sh) (hk : ∀ (b : Nat) (cur : Array Value) (e : TypeId) (fr : Nat × Nat), e = t ∨ e = 9 ∨ e = 5 → W.heap[b]? = some (.cells cur e fr) → W'.heap[b]? = W.heap[b]?) : OE base W' rv ps st t Sh := by
  obtain ⟨xs, h1, h2, h3⟩ := h
  refine ⟨xs, owns_same h1 (fun b e => ?_), fun i hi => ?_, h3⟩
  · obtain ⟨_, _, cur, fr, hc⟩ := own_ty h1 e
    exact hk b cur t fr (.inl rfl) hc
  · obtain ⟨vs, k1, k2⟩ := h2 i hi
    exact ⟨vs, k1, k2.far fun b cur e fr he => hk b cur e fr (.inr he)⟩
/-- What grows is of one type: rows of another stay. -/
theorem grown_far {W6 w2 : World} {v : Value} {B s n : Nat} {e : TypeId} {xs : List Value} (ho : W6.ownsRow B e s v n xs) (hg : W6.grownBy w2 v.ownBlock) (b : Nat) (cur : Array Value) (e' : TypeId) (fr : Nat × Nat) (hne : e' ≠ e) (hb : W6.heap[b]? = some (.cells cur e' fr)) : w2.heap[b]? = W6.heap[b]? := by
  refine hg.block b (Array.getElem?_eq_some_iff.1 hb).1 (fun h => ?_)
  obtain ⟨_, _, c2, f2, hc⟩ := own_ty ho h.symm
  rw [hb] at hc
  simp only [Option.some.injEq, Obj.cells.injEq] at hc
  exact hne hc.2.1
theorem infoCon : (Tryd.prog.info? 44).map (fun i => (i.zero, i.size, i.bytes)) = some (some (.agg #[.int .u8 0, .string ⟨#[]⟩, .int .i64 0]), 3, 32) := by kernel_rfl
/-- The cells of what is answered. -/
def negC (o : Option (Int × Int × Int)) (r : RqD) (l : Value) : Fin 18 → Value := if o.isSome then zc else acC r.called r.calling l
def negE (o : Option (Int × Int × Int)) (ps : List El) : List El := if o.isSome then [] else ps.map ansEl
def negA (o : Option (Int × Int × Int)) (ps : List El) : List (Int × ByteArray × Int) := if o.isSome then [] else agrs ps
/-- What a request is answered with. -/
def NegP (w : World) (r : RqD) (s : SvD) (busy : Int) (ps : List El) (e : Ending) (w' : World) : Prop :=
  ∃ l lv, e = .returned (.tuple #[.agg (Pd (if (rejO r s busy).isSome then 0 else 2) (negC (rejO r s busy) r l)), lv, .int .i64 (if (rejO r s busy).isSome then 0 else mostN r.h r.m), .agg (Pd (rjK (rejO r s busy)) (rjF (rejO r s busy))), .bool (!(rejO r s busy).isSome)]) ∧
    OE w.heap.size w' l (negE (rejO r s busy) ps) 4 51 ShC ∧ w'.ownsRow w.heap.size 44 3 lv (negA (rejO r s busy) ps).length (agrV (negA (rejO r s busy) ps)) ∧ Below w.heap.size w w'
end Go.Proofs.YtnamkcfmbefkfaaDoor
