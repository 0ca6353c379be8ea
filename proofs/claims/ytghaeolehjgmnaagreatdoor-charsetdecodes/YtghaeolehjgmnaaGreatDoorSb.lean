import Derived.Test.YtghaeolehjgmnaaGreatDoorSa
import Derived.Test.YtghaeolehjgmnaaGreatDoorRj
/-
  DERIVED. Decode of both, of bytes that lie anywhere.
-/
namespace Go.Proofs.YtghaeolehjgmnaaGreatDoor
open Go Go.Proofs Go.RowKit

def arr (bs : List Nat) : ByteArray := ⟨(bs.map fun b => b.toUInt8).toArray⟩
theorem arr_size (bs : List Nat) : (arr bs).size = bs.length := by simp [arr, ByteArray.size]
theorem arr_at {bs : List Nat} (hb : ∀ x ∈ bs, x < 256) {k : Nat} (hk : k < bs.length) (h : k < (arr bs).size) : ((arr bs)[k]'h).toNat = bs.getD k 0 := by
  have e : (arr bs)[k]'h = (bs[k]'hk).toUInt8 := by
    show (arr bs).data[k] = _
    simp [arr]
  rw [e, List.getD_eq_getElem?_getD, List.getElem?_eq_getElem hk]
  have := hb _ (List.getElem_mem hk)
  simp
  omega

theorem V.bs {w : World} {v : Value} {bs : List Nat} (h : V w v bs) : ∃ ao cap, v = .slice ao (arr bs).size cap ∧ (arr bs).size ≤ cap ∧ BS w ao (arr bs) := by
  rcases h with ⟨ao, cap, rfl, rfl⟩ | ⟨b, off, cap, rfl, hp, hc, ha, hb⟩
  · exact ⟨ao, cap, rfl, Nat.zero_le _, fun h => by simp [arr_size] at h⟩
  · refine ⟨_, cap, by rw [arr_size], by rw [arr_size]; exact hc, fun _ => ⟨b, off, rfl, fun k hk => ?_⟩⟩
    have hk' : k < bs.length := by rw [arr_size] at hk; exact hk
    rw [arr_at hb hk' hk]
    exact ha k hk'
theorem BS.conv {w : World} {ao : Option Addr} {s : ByteArray} {cap : Nat} (h : BS w ao s) : (convert 23 9 (.slice ao s.size cap)).run Tryz.prog w = .ok (.string s) w := by
  cases ao with
  | none =>
    have h0 : s.size = 0 := by
      rcases Nat.eq_zero_or_pos s.size with h0 | h0
      · exact h0
      · obtain ⟨b, off, e, _⟩ := h h0; cases e
    have : s = ⟨#[]⟩ := by
      have : s.data = #[] := Array.eq_empty_of_size_eq_zero h0
      cases s; simp_all
    subst this
    exact Lib.run_convert_nil_bytes w 23 9 5 cap Tryz.underlying23 Tryz.underlying5 Tryz.underlying9
  | some ad =>
    have := run_convert_bytes_back (P := Tryz.prog) w 23 9 5 ad cap s.data.toList Tryz.underlying23 Tryz.underlying5 Tryz.underlying9 (fun j hj => ?_)
    · simpa using this
    · have hj' : j < s.size := by simpa using hj
      obtain ⟨b, off, e, hc⟩ := h (by omega)
      cases e
      rw [add_at, hc j hj']
      rfl

def strF : Except (Nat × Int) (List Int) → ByteArray
  | .ok out => bsZ out
  | .error _ => ⟨#[]⟩
def errF : Except (Nat × Int) (List Int) → Option (Int × Int)
  | .ok _ => none
  | .error (i, c) => some ((i : Int), c)

theorem rdS_err (x : Bool) (kc ke : ByteArray) (a : Row) (R : List Row) (s : ByteArray) : ∀ (f at' : Nat) (h : Row) (out : List Int) (i : Nat) (c : Int), rdS x kc ke a R s f at' h out = .error (i, c) → c = 86 ∨ c = 87
  | 0, _, _, _, _, _, h => by simp [rdS] at h
  | f + 1, at', hh, out, i, c, h => by
    rw [rdS] at h
    split at h
    · split at h
      · split at h
        · exact rdS_err x kc ke a R s f _ _ _ i c h
        · simp at h; omega
      · split at h
        · simp at h; omega
        · exact rdS_err x kc ke a R s f _ _ _ i c h
    · simp at h
theorem dcS_err (x : Bool) (a : Row) (R : List Row) (k : Int) (s : ByteArray) : ∀ i c, errF (dcS x a R k s) = some (i, c) → (c != 0) = true := by
  intro i c h
  have : c = 84 ∨ c = 85 ∨ c = 86 ∨ c = 87 := by
    unfold dcS at h
    split at h
    · simp [errF] at h; omega
    · split at h
      · simp [errF] at h; omega
      · cases hF : rdS x (kdS (2 * k.toNat)) (kdS (2 * k.toNat + 1)) a R s s.size 0 a [] with
        | error ic =>
          obtain ⟨i', c'⟩ := ic
          rw [hF] at h
          have := rdS_err _ _ _ _ _ _ _ _ _ _ _ _ hF
          simp [dcEnd, errF] at h
          omega
        | ok out =>
          rw [hF] at h
          simp only [dcEnd] at h
          split at h
          · simp [errF] at h; omega
          · simp [errF] at h
  rcases this with rfl | rfl | rfl | rfl <;> decide

/-- Both sets, and the tables. -/
structure Sets (w : World) (q H p : Nat) (u u2 : Value) (a : Row) (R : List Row) (x : Bool) : Prop where
  s : SetIn w q u (a :: R) x
  e : w.cell? ⟨q, 1, none⟩ = some (.bool x)
  r : RSetAt w H p u2 (namesOf (a :: R)) x
  sp : Spell w
  t : Tabs w
  rt : RTabs w
  k : Kinds w
  u : ∀ w', Below w.heap.size w w' → Lib.Utf8Tabs 6 7 w'
theorem Sets.on {w w' : World} {q H p : Nat} {u u2 : Value} {a : Row} {R : List Row} {x : Bool} (h : Sets w q H p u u2 a R x) (hb : Below w.heap.size w w') : Sets w' q H p u u2 a R x :=
  ⟨h.s.on hb, (hb.cell (p := ⟨q, 1, none⟩) (cell_lt h.e)).trans h.e, h.r.on hb, h.sp.on hb, h.t.on hb, h.rt.on hb, h.k.on hb, fun w'' hw => h.u w'' (hb.trans (hw.mono hb.size))⟩

theorem decP {w : World} {q H p : Nat} {u u2 : Value} {a : Row} {R : List Row} {x : Bool} (h : Sets w q H p u u2 a R x) (hR6 : (a :: R).length ≤ 6) (hN : ∀ r ∈ a :: R, r.1 < 7) (k : Int) {v : Value} {bs : List Nat} (hv : V w v bs) :
    Calls Tryz.prog 6 #[.pointer (some ⟨q, 0, none⟩), .int .i64 k, v] w fun e w' => ∃ er, e = .returned (.tuple #[.string (strF (dcS x a R k (arr bs))), er]) ∧ PErr w' er (errF (dcS x a R k (arr bs))) ∧ Below w.heap.size w w' := by
  obtain ⟨ao, cap, rfl, hc, hb⟩ := hv.bs
  refine (decode20_any w q u a R x k ao cap (arr bs) h.s h.e hR6 hN h.sp h.t h.u h.k (fun w' hw => (hb.on hw).conv)).mono ?_
  rintro e w' ⟨hb, hF⟩
  generalize dcS x a R k (arr bs) = F at hF ⊢
  cases F with
  | ok out => exact ⟨_, hF, rfl, hb⟩
  | error ic =>
    obtain ⟨i, c⟩ := ic
    obtain ⟨v, he, hp⟩ := hF
    exact ⟨v, he, hp, hb⟩

theorem decR {w : World} {q H p : Nat} {u u2 : Value} {a : Row} {R : List Row} {x : Bool} (h : Sets w q H p u u2 a R x) (hR6 : (a :: R).length ≤ 6) (hN : ∀ r ∈ a :: R, r.1 < 7) (hx6 : x = true → ∀ r ∈ a :: R, r.1 < 6) (k : Int) {v : Value} {bs : List Nat} (hv : V w v bs) :
    Calls Tryz.prog 7 #[.pointer (some ⟨p, 0, none⟩), .int .i64 k, v] w fun e w' => ∃ fa fl fc fn, e = .returned (.tuple #[.string (strF (dcS x a R k (arr bs))), .agg #[.slice fa fl fc, .int .i64 fn]]) ∧ RErr w' (.agg #[.slice fa fl fc, .int .i64 fn]) (errF (dcS x a R k (arr bs))) ∧ Below w.heap.size w w' := by
  obtain ⟨ao, cap, rfl, hc, hb⟩ := hv.bs
  refine (rdecode_any w H p u2 a R x k ao cap (arr bs) h.r hR6 hN hx6 h.rt hb hc).mono ?_
  rintro e w' ⟨hb, hF⟩
  generalize dcS x a R k (arr bs) = F at hF ⊢
  cases F with
  | ok out => exact ⟨_, _, _, _, hF, rfl, hb⟩
  | error ic =>
    obtain ⟨i, c⟩ := ic
    obtain ⟨f, he, hr⟩ := hF
    have hr2 := hr
    obtain ⟨g, kk, rfl, -⟩ := hr
    exact ⟨_, _, _, _, he, hr2, hb⟩
end Go.Proofs.YtghaeolehjgmnaaGreatDoor
