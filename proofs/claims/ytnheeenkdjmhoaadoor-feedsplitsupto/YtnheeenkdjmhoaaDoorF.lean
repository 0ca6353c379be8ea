
import Derived.Test.YtnheeenkdjmhoaaDoorE
import Derived.ScopeJumps
/-
  DERIVED. A scope in which the run jumps to several labels; what a framer does, pure; what stands in Take's frame.
-/
namespace Go.Proofs.YtnheeenkdjmhoaaDoor
open Go Go.Proofs Go.RowKit Go.Deep

/-- As Q; by a goto to a label: J of that label. -/
def jumps (J : Nat → Act → World → Prop) (Q : Exit → Act → World → Prop) : Exit → Act → World → Prop
  | .goto l, a, w => J l a w
  | e, a, w => Q e a w
theorem jumps_ret {J : Nat → Act → World → Prop} {Q : Exit → Act → World → Prop} {a : Act} {w : World} : jumps J Q .ret a w = Q .ret a w := rfl
theorem jumps_goto {J : Nat → Act → World → Prop} {Q : Exit → Act → World → Prop} {l : Nat} {a : Act} {w : World} : jumps J Q (.goto l) a w = J l a w := rfl

section
variable {P : Program} {a : Act} {w : World} {Q : Exit → Act → World → Prop}

theorem wp_scope_many {c : Code} (J : Nat → Nat → Act → World → Prop)
    (first : c.wp P (jumps (fun l a w => ∃ m, J l m a w) Q) a w)
    (pass : ∀ l m a w, J l m a w → ∃ rest, findLabel c l = some rest ∧ rest.wp P (jumps (fun l' a' w' => ∃ m', m' < m ∧ J l' m' a' w') Q) a w) : (Code.scope c).wp P Q a w := by
  intro b k cs
  have hg : ∀ l rest, findLabel c l = some rest → gotoIn l (.inScope c :: k) = some (.code rest :: .inScope c :: k) := fun l rest hf => by simp [gotoIn, hf]
  have key : ∀ n l a w, J l n a w → ∃ rest, findLabel c l = some rest ∧ ∃ e a' w', Q e a' w' ∧ Arrives P (lone (b.at a (.code rest :: .inScope c :: k)) cs w) b k cs e a' w' := by
    intro n
    induction n using Nat.strongRecOn with
    | _ n ih =>
      intro l a w hJ
      obtain ⟨rest, hf, hp⟩ := pass l n a w hJ
      refine ⟨rest, hf, ?_⟩
      obtain ⟨e, a₁, w₁, hq, harr⟩ := hp b (.inScope c :: k) cs
      cases e with
      | normal => exact ⟨.normal, a₁, w₁, hq, Steps.trans harr (.one step_inScope)⟩
      | exit id => exact ⟨.exit id, a₁, w₁, hq, fun k' hk => harr k' (by simp [exitTo, hk])⟩
      | goto l' =>
        obtain ⟨m', hlt, hJ'⟩ := hq
        obtain ⟨rest', hf', e₂, a₂, w₂, hq₂, harr₂⟩ := ih m' hlt l' a₁ w₁ hJ'
        exact ⟨e₂, a₂, w₂, hq₂, .of_steps (harr _ (hg _ _ hf')) harr₂⟩
      | ret => exact ⟨_, a₁, w₁, hq, harr⟩
      | panic ch => exact ⟨_, a₁, w₁, hq, harr⟩
      | outgrown => exact ⟨_, a₁, w₁, hq, harr⟩
  obtain ⟨e, a₁, w₁, hq, harr⟩ := first b (.inScope c :: k) cs
  cases e with
  | normal => exact ⟨.normal, a₁, w₁, hq, .head step_scope (Steps.trans harr (.one step_inScope))⟩
  | exit id => exact ⟨.exit id, a₁, w₁, hq, fun k' hk => .head step_scope (harr k' (by simp [exitTo, hk]))⟩
  | goto l' =>
    obtain ⟨m', hJ'⟩ := hq
    obtain ⟨rest', hf', e₂, a₂, w₂, hq₂, harr₂⟩ := key m' l' a₁ w₁ hJ'
    exact ⟨e₂, a₂, w₂, hq₂, .of_steps (.head step_scope (harr _ (hg _ _ hf'))) harr₂⟩
  | ret => exact ⟨_, a₁, w₁, hq, .of_steps (.one step_scope) harr⟩
  | panic ch => exact ⟨_, a₁, w₁, hq, .of_steps (.one step_scope) harr⟩
  | outgrown => exact ⟨_, a₁, w₁, hq, .of_steps (.one step_scope) harr⟩
end

abbrev FSt := Nat × List Nat × Bool
abbrev Fs := List (List Nat × Bool)
/-- A byte in a text. -/
def lk (c : Nat) (tx : List Nat) (lg : Bool) : FSt := if c = 11 then (2, [], false) else if c = 28 then (3, tx, lg) else (2, kpT tx c, kpL tx lg)
/-- A byte. -/
def sp (c : Nat) (s : FSt) : FSt :=
  if s.1 = 1 then (if c = 11 then (2, [], false) else (1, [], false))
  else if s.1 = 2 then lk c s.2.1 s.2.2
  else if c = 13 then (1, [], false) else lk c (kpT s.2.1 28) (kpL s.2.1 s.2.2)
def ot (c : Nat) (s : FSt) : Fs := if s.1 = 3 ∧ c = 13 then [(s.2.1, s.2.2)] else []
/-- Bytes. -/
def tk : List Nat → FSt → Fs → FSt × Fs
  | [], s, fs => (s, fs)
  | c :: r, s, fs => tk r (sp c s) (fs ++ ot c s)

theorem drop_cons {bs : List Nat} {k : Nat} (h : k < bs.length) : bs.drop k = bs.getD k 0 :: bs.drop (k + 1) := by
  rw [List.drop_eq_getElem_cons h, List.getD_eq_getElem?_getD, List.getElem?_eq_getElem h]
  rfl
theorem tk_at {bs : List Nat} {k : Nat} (h : k < bs.length) (s : FSt) (fs : Fs) : tk (bs.drop k) s fs = tk (bs.drop (k + 1)) (sp (bs.getD k 0) s) (fs ++ ot (bs.getD k 0) s) := by rw [drop_cons h]; rfl
theorem tk_end {bs : List Nat} {k : Nat} (h : bs.length ≤ k) (s : FSt) (fs : Fs) : tk (bs.drop k) s fs = (s, fs) := by rw [List.drop_eq_nil_of_le h]; rfl

def arr (bs : List Nat) : ByteArray := ⟨(bs.map Nat.toUInt8).toArray⟩
/-- The cells of frames. -/
def fsC (fs : Fs) : List Value := fs.flatMap fun f => [.string (arr f.1), .bool f.2]
theorem fsC_app (fs : Fs) (f : List Nat × Bool) : fsC (fs ++ [f]) = fsC fs ++ [.string (arr f.1), .bool f.2] := by simp [fsC]

/-- What stands in memory while Take runs. -/
structure TI (w0 : World) (q : Nat) (u0 : Value) (W : World) (u told : Value) (st : Int) (tx : List Nat) (lg : Bool) (fs : Fs) : Prop where
  fr : FR W q u st tx lg
  ch : Ch (FS q u0) w0 W
  ub : u.ownBlock = u0.ownBlock ∨ ∀ g, u.ownBlock = some g → w0.heap.size ≤ g
  tl : W.ownsRow w0.heap.size 33 2 told fs.length (fsC fs)

/-- Bytes that lie apart from a framer. -/
def Apart (w0 : World) (q : Nat) (u0 : Value) (bv : Value) : Prop := ∀ b off n cap, bv = .slice (some ⟨b, off, none⟩) n cap → 0 < n → b < w0.heap.size ∧ ¬ FS q u0 b

theorem V.ch {w0 W : World} {q : Nat} {u0 bv : Value} {bs : List Nat} (h : V w0 bv bs) (hc : Ch (FS q u0) w0 W) (ha : Apart w0 q u0 bv) : V W bv bs := by
  rcases h with h | ⟨b, off, cap, rfl, hp, hcap, h⟩
  · exact .inl h
  · obtain ⟨h1, h2⟩ := ha b off _ cap rfl hp
    exact .inr ⟨b, off, cap, rfl, hp, hcap, fun k hk => (World.cell?_of_block (a := ⟨b, off + k, none⟩) (hc.block b h1 h2)).trans (h.1 k hk), h.2⟩

/-- Take's frame. -/
def fr (q : Nat) (bv told : Value) (next : Int) (t : Nat → Value) : Act := { tmps := #[.pointer (some ⟨q, 0, none⟩), bv, undef, undef, .slice none 0 0, told, .int .i64 next, t 7, t 8, t 9, t 10, t 11, t 12, t 13, t 14, t 15, t 16, t 17, t 18, t 19, t 20, t 21, t 22, t 23, t 24, t 25, t 26, t 27, t 28, t 29, t 30, t 31, t 32, t 33, t 34, t 35, t 36, t 37, t 38, t 39, t 40, t 41, t 42, t 43, t 44, t 45, t 46, t 47, t 48, t 49, t 50, t 51, t 52, t 53, t 54, t 55, t 56, t 57, t 58, t 59, t 60, t 61, t 62, t 63, t 64, t 65, t 66, t 67, t 68, t 69, t 70, t 71, t 72, t 73, t 74, t 75, t 76, t 77, t 78, t 79, t 80, t 81, t 82, t 83, t 84, t 85, t 86, t 87, t 88, t 89, t 90, t 91, t 92, t 93, t 94, t 95, t 96, t 97], defers := [] }
end Go.Proofs.YtnheeenkdjmhoaaDoor
