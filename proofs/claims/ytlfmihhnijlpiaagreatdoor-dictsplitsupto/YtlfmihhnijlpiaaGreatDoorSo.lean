import Derived.Test.YtlfmihhnijlpiaaGreatDoorSn
import Derived.Lib.QuietBelow
/-
  DERIVED. What the document's Join leans on: joins grown by one, its faults.
-/
namespace Go.Proofs.YtlfmihhnijlpiaaGreatDoor.Sp
open Go Go.Proofs Go.RowKit Go.Sort
open Wk (cell_lt own_keep Stop)

theorem join_head (sep x : List UInt8) (r : List (List UInt8)) : Lib.join (x :: r) sep = x ++ Lib.joinTail sep r := by
  induction r generalizing x with
  | nil => rw [Lib.join_one]; simp [Lib.joinTail]
  | cons y r ih =>
    have h2 : Lib.join (x :: y :: r) sep = x ++ sep ++ Lib.join (y :: r) sep := by simp [Lib.join, List.intercalate]
    rw [h2, ih]
    simp [Lib.joinTail]
theorem join_snoc (sep y : List UInt8) (L : List (List UInt8)) : Lib.join (L ++ [y]) sep = Lib.join L sep ++ (if L = [] then y else sep ++ y) := by
  cases L with
  | nil => simp [Lib.join_nil, Lib.join_one]
  | cons x r =>
    rw [List.cons_append, join_head, join_head, if_neg (by simp)]
    simp [Lib.joinTail]
theorem jnL_snoc (L : List ByteArray) (x sep : ByteArray) : jnL (L ++ [x]) sep = jnL L sep ++ (if L = [] then x.data.toList else sep.data.toList ++ x.data.toList) := by
  unfold jnL
  rw [List.map_append, List.map_cons, List.map_nil, join_snoc]
  cases L <;> simp
theorem jnL_grow (sep : ByteArray) : ∀ (M L : List ByteArray), (jnL L sep).length ≤ (jnL (L ++ M) sep).length
  | [], L => by simp
  | x :: M, L => by
      have h := jnL_grow sep M (L ++ [x])
      rw [List.append_assoc, List.singleton_append] at h
      refine Nat.le_trans ?_ h
      rw [jnL_snoc, List.length_append]
      omega
theorem jnL_take (sep : ByteArray) (xs : List ByteArray) (i : Nat) : (jnL (xs.take i) sep).length ≤ (jnL xs sep).length := by
  have := jnL_grow sep (xs.drop i) (xs.take i)
  rwa [List.take_append_drop] at this
theorem jnB_size (xs : List ByteArray) (sep : ByteArray) : (jnB xs sep).size = (jnL xs sep).length := by
  unfold jnB
  show (jnL xs sep).toArray.size = _
  simp
theorem app_data (a b : ByteArray) : (a ++ b).data.toList = a.data.toList ++ b.data.toList := by
  rw [ByteArray.data_append]; simp
theorem ba_ext {a b : ByteArray} (h : a.data.toList = b.data.toList) : a = b := by
  cases a; cases b
  simp only [ByteArray.mk.injEq]
  exact Array.toList_inj.1 h
theorem jnB_data (xs : List ByteArray) (sep : ByteArray) : (jnB xs sep).data.toList = jnL xs sep := by simp [jnB]
theorem jnB_next (xs : List ByteArray) (sep x : ByteArray) (i : Nat) (h : xs[i]? = some x) (hi : 0 < i) : jnB (xs.take (i + 1)) sep = jnB (xs.take i) sep ++ sep ++ x := by
  apply ba_ext
  rw [jnB_data, app_data, app_data, jnB_data, List.take_add_one, h]
  show jnL (xs.take i ++ [x]) sep = _
  rw [jnL_snoc, if_neg, List.append_assoc]
  intro q
  have hl := (List.getElem?_eq_some_iff.1 h).1
  have := congrArg List.length q
  rw [List.length_take, List.length_nil] at this
  omega
theorem jnB_first (xs : List ByteArray) (sep x : ByteArray) (h : xs[0]? = some x) : jnB (xs.take 1) sep = jnB (xs.take 0) sep ++ x := by
  apply ba_ext
  rw [jnB_data, app_data, jnB_data, List.take_add_one, h]
  show jnL ([] ++ [x]) sep = _
  rw [jnL_snoc, if_pos rfl]
  rfl
theorem jnB_plain (xs : List ByteArray) (x : ByteArray) (i : Nat) (h : xs[i]? = some x) : jnB (xs.take (i + 1)) mty = jnB (xs.take i) mty ++ x := by
  apply ba_ext
  rw [jnB_data, app_data, jnB_data, List.take_add_one, h]
  show jnL (xs.take i ++ [x]) mty = _
  rw [jnL_snoc]
  split <;> simp [mty]
theorem jnB_short (xs : List ByteArray) (h : ¬ 1 < xs.length) : jnB xs bsl = jnB xs mty := by
  match xs, h with
  | [], _ => rfl
  | [x], _ => unfold jnB jnL; rw [List.map_cons, List.map_nil, Lib.join_one, Lib.join_one]
  | x :: y :: r, h => simp at h

/-- What the document says of a refusal (code 0: none). -/
structure RErr (w : World) (e : Value) (c p : Int) : Prop where
  zer : c = 0 → e = .agg #[.slice none 0 0, .int .i64 0]
  non : c ≠ 0 → ∃ g cg, e = .agg #[.slice (some ⟨g, 0, none⟩) 1 cg, .int .i64 c] ∧ w.cell? ⟨g, 0, none⟩ = some (.string { data := #[100, 105, 99, 116] }) ∧ w.cell? ⟨g, 1, none⟩ = some (.int .i64 p)
theorem RErr.on {w w' : World} {e : Value} {c p : Int} (h : RErr w e c p) (hb : Below w.heap.size w w') : RErr w' e c p :=
  ⟨h.zer, fun hc => by
    obtain ⟨g, cg, h1, h2, h3⟩ := h.non hc
    exact ⟨g, cg, h1, (World.cell?_of_block (hb.block g (cell_lt h2))).trans h2, (World.cell?_of_block (hb.block g (cell_lt h3))).trans h3⟩⟩
/-- Both say the same. -/
theorem is_same (w : World) (x f : Value) (c p : Int) (hp : PErr w x c p) (hr : RErr w f c p) : Calls Tryz.prog 10 #[x, f] w fun e w' => e = .returned (.bool true) ∧ Hid (Below w.heap.size w w') := by
  by_cases hc : c = 0
  · rw [hp.zer hc, hr.zer hc]
    exact Rp.is_nil w
  · obtain ⟨q, rfl, q0, q1, q2⟩ := hp.non hc
    obtain ⟨g, cg, rfl, g0, g1⟩ := hr.non hc
    exact Rp.is_one c (by simpa using hc) q g cg p w q0 q1 q2 g0 g1
theorem new_any (w : World) (c p : Int) : Calls Tryz.prog 21 #[.string { data := #[100, 105, 99, 116] }, .int .i64 p, .int .i64 c] w fun e w' => ∃ g, e = .returned (.agg #[.slice (some ⟨g, 0, none⟩) 1 1, .int .i64 c]) ∧ Hid (Below w.heap.size w w' ∧ w'.cell? ⟨g, 0, none⟩ = some (.string { data := #[100, 105, 99, 116] }) ∧ w'.cell? ⟨g, 1, none⟩ = some (.int .i64 p) ∧ w.heap.size < g) :=
  (Rp.new0_any c p w).mono fun e w' ⟨he, hb, h0, h1, _⟩ => ⟨_, he, hb, h0, h1, by omega⟩

set_option maxHeartbeats 2000000 in
theorem none_any (w : World) : Calls Tryz.prog 22 #[] w fun e w' => e = .returned (.agg #[.slice none 0 0, .int .i64 0]) ∧ Hid (Below w.heap.size w w') := by
  go_enter Tryz.func22, Tryz.ntmps22
  go_wp2
  exact bodyPost_ret (by simp only [results, Tryz.results22]; simp [go_sem]) rfl ⟨rfl, (Below.refl _ _).alloc (Nat.le_refl _) _⟩

theorem hmix : Tryz.prog.follows Departure.mixedOrders = true := by kernel_rfl
structure ShutQ (p : Prop) : Prop where
  out : p
theorem sq_skip {P : Program} {ops : Array Oper} {C : World → Prop} {Q : Act → Prop} {a : Act} {o : Oper} {rest : List Oper} (hwant : Region.wanted o (yielded ops a.tmps) = false) (h : ShutQ (wpQuiet P ops C Q rest (a.put o.dst undef))) : ShutQ (wpQuiet P ops C Q (o :: rest) a) := by
  refine ⟨?_⟩
  unfold wpQuiet
  rw [if_neg (by simp [hwant])]
  exact h.out
theorem sq_move {P : Program} {ops : Array Oper} {C : World → Prop} {Q : Act → Prop} {a : Act} {o : Oper} {rest : List Oper} (x : Operand) (ho : o.op = .move x) (hwant : Region.wanted o (yielded ops a.tmps) = true) (h : ShutQ (wpQuiet P ops C Q rest (a.put o.dst (a.eval x)))) : ShutQ (wpQuiet P ops C Q (o :: rest) a) := by
  refine ⟨?_⟩
  unfold wpQuiet
  rw [if_pos hwant]
  refine ⟨a.eval x, fun w hw => ?_, h.out⟩
  unfold Oper.quietAt execOp
  simp only [ho, Sem.run_pure]
  exact ⟨rfl, rfl⟩
theorem sq_pick {P : Program} {ops : Array Oper} {C : World → Prop} {Q : Act → Prop} {a : Act} {o : Oper} {rest : List Oper} (c x y : Operand) (b : Bool) (ho : o.op = .pick c x y) (hc : a.eval c = .bool b) (hwant : Region.wanted o (yielded ops a.tmps) = true) (h : ShutQ (wpQuiet P ops C Q rest (a.put o.dst (if b = true then a.eval x else a.eval y)))) : ShutQ (wpQuiet P ops C Q (o :: rest) a) := by
  refine ⟨?_⟩
  unfold wpQuiet
  rw [if_pos hwant]
  refine ⟨_, fun w hw => ?_, h.out⟩
  unfold Oper.quietAt execOp
  simp only [ho, hc, asBool, Sem.run_bind, Sem.run_pure, Result.andThen_ok]
  exact ⟨rfl, rfl⟩
def noF (_ : ByteArray) : Bool := false
/-- The place of the answer, untouched yet. -/
structure RF (W : World) (R : Nat) (w : World) : Prop where
  r0 : w.cell? ⟨R, 0, none⟩ = some (.slice none 0 0)
  r1 : w.cell? ⟨R, 1, none⟩ = some (.int .i64 0)
  f0 : w.frozen? ⟨R, 0, none⟩ = false
  f1 : w.frozen? ⟨R, 1, none⟩ = false
  b : Below R W w
theorem RF.on {W w w' : World} {R : Nat} (h : RF W R w) (hb : Below w.heap.size w w') : RF W R w' := by
  have hR := cell_lt h.r0
  have hblk := hb.block R hR
  refine ⟨(World.cell?_of_block hblk).trans h.r0, (World.cell?_of_block hblk).trans h.r1, ?_, ?_, h.b.trans (hb.mono (by simp at hR; omega))⟩
  · have := h.f0
    unfold World.frozen? at this ⊢
    rw [hblk]; exact this
  · have := h.f1
    unfold World.frozen? at this ⊢
    rw [hblk]; exact this
theorem RF.start (W : World) : RF W W.heap.size (W.alloc (.cells #[.slice none 0 0, .int .i64 0] 34)) := by
  have hh := Wk.heap_new W (.cells #[.slice none 0 0, .int .i64 0] 34)
  refine ⟨by simp, by simp, ?_, ?_, (Below.refl _ _).alloc (Nat.le_refl _) _⟩
  · rw [World.frozen?, hh]; rfl
  · rw [World.frozen?, hh]; rfl
theorem RF.put {W w : World} {R : Nat} (h : RF W R w) (a b : Value) : Below R W ((w.setCell ⟨R, 0, none⟩ a).setCell ⟨R, 1, none⟩ b) := (h.b.setCell (Nat.le_refl _) a).setCell (Nat.le_refl _) b
theorem RF.fin {W w : World} {R : Nat} (h : RF W R w) {g : Nat} {c p : Int} (hg : R ≠ g) (hc : c ≠ 0) (h0 : w.cell? ⟨g, 0, none⟩ = some (.string { data := #[100, 105, 99, 116] })) (h1 : w.cell? ⟨g, 1, none⟩ = some (.int .i64 p)) (a b : Value) :
    RErr ((w.setCell ⟨R, 0, none⟩ a).setCell ⟨R, 1, none⟩ b) (.agg #[.slice (some ⟨g, 0, none⟩) 1 1, .int .i64 c]) c p ∧ Below R W ((w.setCell ⟨R, 0, none⟩ a).setCell ⟨R, 1, none⟩ b) :=
  ⟨⟨fun q => absurd q hc, fun _ => ⟨g, 1, rfl, (cell_set_off hg).trans ((cell_set_off hg).trans h0), (cell_set_off hg).trans ((cell_set_off hg).trans h1)⟩⟩, h.put a b⟩
end Go.Proofs.YtlfmihhnijlpiaaGreatDoor.Sp
