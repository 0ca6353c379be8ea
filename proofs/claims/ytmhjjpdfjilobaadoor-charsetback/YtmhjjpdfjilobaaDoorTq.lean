import Derived.Test.YtmhjjpdfjilobaaDoorTe
import Derived.Test.YtmhjjpdfjilobaaDoorTp
/-
  DERIVED. Decode of bytes that lie anywhere; of pieces.
-/
namespace Go.Proofs.YtmhjjpdfjilobaaDoor
open Go Go.Proofs Go.RowKit

theorem add_at (b o q : Nat) : (⟨b, o, none⟩ : Addr).add q = ⟨b, o + q, none⟩ := by
  unfold Addr.add
  simp
/-- Bytes, where they lie. -/
def BS (w : World) (ao : Option Addr) (s : ByteArray) : Prop := 0 < s.size → ∃ b off, ao = some ⟨b, off, none⟩ ∧ ∀ k (h : k < s.size), w.cell? ⟨b, off + k, none⟩ = some (.int .u8 ((s[k]'h).toNat : Int))
theorem BS.on {w w' : World} {ao : Option Addr} {s : ByteArray} (h : BS w ao s) (hb : Below w.heap.size w w') : BS w' ao s := fun hz => by
  obtain ⟨b, off, e, hc⟩ := h hz
  exact ⟨b, off, e, fun k hk => (hb.cell (p := ⟨b, off + k, none⟩) (cell_lt (hc k hk))).trans (hc k hk)⟩

def arr (bs : List Nat) : ByteArray := ⟨(bs.map fun b => b.toUInt8).toArray⟩
theorem arr_size (bs : List Nat) : (arr bs).size = bs.length := by simp [arr, ByteArray.size]
theorem arr_at {bs : List Nat} (hb : ∀ x ∈ bs, x < 256) {k : Nat} (hk : k < bs.length) (h : k < (arr bs).size) : ((arr bs)[k]'h).toNat = bs.getD k 0 := by
  have e : (arr bs)[k]'h = (bs[k]'hk).toUInt8 := by
    show (arr bs).data[k] = _
    simp [arr]
  rw [e, List.getD_eq_getElem?_getD, List.getElem?_eq_getElem hk]
  have := hb _ (List.getElem_mem hk)
  simp
  omega

theorem V.bs {w : World} {v : Value} {bs : List Nat} (h : V w v bs) : ∃ ao cap, v = .slice ao (arr bs).size cap ∧ (arr bs).size ≤ cap ∧ BS w ao (arr bs) := by
  rcases h with ⟨ao, cap, rfl, rfl⟩ | ⟨b, off, cap, rfl, hp, hc, ha, hb⟩
  · exact ⟨ao, cap, rfl, Nat.zero_le _, fun h => by simp [arr_size] at h⟩
  · refine ⟨_, cap, by rw [arr_size], by rw [arr_size]; exact hc, fun _ => ⟨b, off, rfl, fun k hk => ?_⟩⟩
    have hk' : k < bs.length := by rw [arr_size] at hk; exact hk
    rw [arr_at hb hk' hk]
    exact ha k hk'
theorem BS.conv {w : World} {ao : Option Addr} {s : ByteArray} {cap : Nat} (h : BS w ao s) : (convert 43 9 (.slice ao s.size cap)).run Tryd.prog w = .ok (.string s) w := by
  cases ao with
  | none =>
    have h0 : s.size = 0 := by
      rcases Nat.eq_zero_or_pos s.size with h0 | h0
      · exact h0
      · obtain ⟨b, off, e, _⟩ := h h0; cases e
    have : s = ⟨#[]⟩ := by
      have : s.data = #[] := Array.eq_empty_of_size_eq_zero h0
      cases s; simp_all
    subst this
    exact Lib.run_convert_nil_bytes w 43 9 5 cap Tryd.underlying43 Tryd.underlying5 Tryd.underlying9
  | some ad =>
    have := run_convert_bytes_back (P := Tryd.prog) w 43 9 5 ad cap s.data.toList Tryd.underlying43 Tryd.underlying5 Tryd.underlying9 (fun j hj => ?_)
    · simpa using this
    · have hj' : j < s.size := by simpa using hj
      obtain ⟨b, off, e, hc⟩ := h (by omega)
      cases e
      rw [add_at, hc j hj']
      rfl

def strF : Except (Nat × Int) (List Int) → ByteArray
  | .ok out => bsZ out
  | .error _ => ⟨#[]⟩
def errF : Except (Nat × Int) (List Int) → Option (Int × Int)
  | .ok _ => none
  | .error (i, c) => some ((i : Int), c)

/-- A set, and the tables. -/
structure SetT (w : World) (q : Nat) (u : Value) (a : Row) (R : List Row) (x : Bool) : Prop where
  s : SetIn w q u (a :: R) x
  e : w.cell? ⟨q, 1, none⟩ = some (.bool x)
  sp : Spell w
  t : Tabs w
  k : Kinds w
  u : ∀ w', Below w.heap.size w w' → Lib.Utf8Tabs 6 7 w'
theorem SetT.on {w w' : World} {q : Nat} {u : Value} {a : Row} {R : List Row} {x : Bool} (h : SetT w q u a R x) (hb : Below w.heap.size w w') : SetT w' q u a R x :=
  ⟨h.s.on hb, (hb.cell (p := ⟨q, 1, none⟩) (cell_lt h.e)).trans h.e, h.sp.on hb, h.t.on hb, h.k.on hb, fun w'' hw => h.u w'' (hb.trans (hw.mono hb.size))⟩
theorem decV {w : World} {q : Nat} {u : Value} {a : Row} {R : List Row} {x : Bool} (h : SetT w q u a R x) (hR6 : (a :: R).length ≤ 6) (hN : ∀ r ∈ a :: R, r.1 < 7) (k : Int) {v : Value} {bs : List Nat} (hv : V w v bs) :
    Calls Tryd.prog 20 #[.pointer (some ⟨q, 0, none⟩), .int .i64 k, v] w fun e w' => ∃ er, e = .returned (.tuple #[.string (strF (dcS x a R k (arr bs))), er]) ∧ PErr w' er (errF (dcS x a R k (arr bs))) ∧ Below w.heap.size w w' := by
  obtain ⟨ao, cap, rfl, hc, hb⟩ := hv.bs
  refine (decode20_any w q u a R x k ao cap (arr bs) h.s h.e hR6 hN h.sp h.t h.u h.k (fun w' hw => (hb.on hw).conv)).mono ?_
  rintro e w' ⟨hb, hF⟩
  generalize dcS x a R k (arr bs) = F at hF ⊢
  cases F with
  | ok out => exact ⟨_, hF, rfl, hb⟩
  | error ic =>
    obtain ⟨i, c⟩ := ic
    obtain ⟨v, he, hp⟩ := hF
    exact ⟨v, he, hp, hb⟩

def endsS (j : Nat) (b : Nat) : Bool := if j = 0 then (b == 9 || b == 10 || b == 12 || b == 13) else if j = 2 then (b == 92 || b == 94 || b == 61) else b == 92
theorem ends_facts : ∀ (j : Fin 3) (b : Fin 256), endsS j.val b.val = true → b.val < 128 ∧ b.val ∉ [27, 40, 66, 45, 65, 70, 76, 77] ∧ plainR (kdS (2 * j.val)) (b.val : Int) = true ∧ hasR (kdS (2 * j.val + 1)) (b.val : Int) = true := by decide +kernel

set_option maxRecDepth 100000 in
theorem lends_any (w : World) (j b : Nat) (hj : j < 3) : Calls Tryd.prog 19 #[.int .i64 (j : Int), .int .u8 (b : Int)] w fun e w' => e = .returned (.bool (endsS j b)) ∧ w = w' := by
  rcases (show j = 0 ∨ j = 1 ∨ j = 2 by omega) with rfl | rfl | rfl
  · rcases (show b = 9 ∨ b = 10 ∨ b = 12 ∨ b = 13 ∨ (¬ b = 9 ∧ ¬ b = 10 ∧ ¬ b = 12 ∧ ¬ b = 13) by omega) with rfl | rfl | rfl | rfl | ⟨h1, h2, h3, h4⟩
    case inr.inr.inr.inr =>
      have e : endsS 0 b = false := by simp [endsS, h1, h2, h3, h4]
      rw [e]
      have d1 : ¬ (b : Int) = 9 := by omega
      have d2 : ¬ (b : Int) = 10 := by omega
      have d3 : ¬ (b : Int) = 12 := by omega
      have d4 : ¬ (b : Int) = 13 := by omega
      clear e h1 h2 h3 h4
      go_enter Tryd.func19, Tryd.ntmps19
      go_wp2
      go_ret
      exact ⟨by simp_all, rfl⟩
    all_goals (
      go_enter Tryd.func19, Tryd.ntmps19
      go_wp2
      go_ret
      exact ⟨rfl, rfl⟩)
  · have e : endsS 1 b = (b == 92) := by simp [endsS]
    rw [e]
    by_cases h1 : b = 92
    · subst h1
      clear e
      go_enter Tryd.func19, Tryd.ntmps19
      go_wp2
      go_ret
      exact ⟨rfl, rfl⟩
    · have d1 : ¬ (b : Int) = 92 := by omega
      rw [show (b == 92) = false from by simp [h1]]
      clear e
      go_enter Tryd.func19, Tryd.ntmps19
      go_wp2
      go_ret
      exact ⟨by simp_all, rfl⟩
  · rcases (show b = 92 ∨ b = 94 ∨ b = 61 ∨ (¬ b = 92 ∧ ¬ b = 94 ∧ ¬ b = 61) by omega) with rfl | rfl | rfl | ⟨h1, h2, h3⟩
    case inr.inr.inr =>
      have e : endsS 2 b = false := by simp [endsS, h1, h2, h3]
      rw [e]
      have d1 : ¬ (b : Int) = 92 := by omega
      have d2 : ¬ (b : Int) = 94 := by omega
      have d3 : ¬ (b : Int) = 61 := by omega
      clear e h1 h2 h3
      go_enter Tryd.func19, Tryd.ntmps19
      go_wp2
      go_ret
      exact ⟨by simp_all, rfl⟩
    all_goals (
      go_enter Tryd.func19, Tryd.ntmps19
      go_wp2
      go_ret
      exact ⟨rfl, rfl⟩)

/-- Cut behind a byte that ends a piece, both parts are read by themselves. -/
theorem dcS_cut (x : Bool) (a : Row) (R : List Row) (j : Nat) (hj : j < 3) (A B : List Nat) (e : Nat) (he : e < 256) (hend : endsS j e = true) (hx6 : x = true → ∀ r ∈ a :: R, r.1 < 6) (out : List Int) (h : dcS x a R (j : Int) (arr (A ++ e :: B)) = .ok out) :
    ∃ oA oB, dcS x a R (j : Int) (arr A) = .ok oA ∧ dcS x a R (j : Int) (arr B) = .ok oB ∧ out = oA ++ (e : Int) :: oB := by
  obtain ⟨h1, h2, h3, h4⟩ := ends_facts ⟨j, hj⟩ ⟨e, he⟩ hend
  simp only at h1 h2 h3 h4
  have hl : ∀ l : List Nat, (arr l).data.toList = l.map fun b => b.toUInt8 := fun l => by simp [arr]
  have hk : ¬ ((j : Int) < 0 ∨ 3 ≤ (j : Int)) := by omega
  have ho : ∀ l : List Nat, okO (rdS x (kdS (2 * j)) (kdS (2 * j + 1)) a R (arr l) (arr l).size 0 a []) = rdO x (kdS (2 * j)) (kdS (2 * j + 1)) a R l.length (l.map fun b => b.toUInt8) a := fun l => by
    rw [rdS_rdO _ _ _ _ _ _ _ _ _ _ (by omega), hl, List.drop_zero, arr_size]
    simp
  unfold dcS at h ⊢
  rw [if_neg hk] at h ⊢
  rw [if_neg hk]
  rw [Int.toNat_natCast] at h ⊢
  by_cases hs : 65534 < (arr (A ++ e :: B)).size
  · rw [if_pos hs] at h; cases h
  · rw [if_neg hs] at h
    have hsz := hs
    rw [arr_size] at hsz
    simp at hsz
    have hsA : ¬ 65534 < (arr A).size := by rw [arr_size]; omega
    have hsB : ¬ 65534 < (arr B).size := by rw [arr_size]; omega
    rw [if_neg hsA, if_neg hsB]
    cases hF : rdS x (kdS (2 * j)) (kdS (2 * j + 1)) a R (arr (A ++ e :: B)) (arr (A ++ e :: B)).size 0 a [] with
    | error ic => rw [hF] at h; simp [dcEnd] at h
    | ok o =>
      rw [hF] at h
      simp only [dcEnd] at h
      by_cases hL : 65534 < o.length
      · rw [if_pos hL] at h; cases h
      · rw [if_neg hL] at h
        obtain rfl : o = out := by simpa using h
        have hO := ho (A ++ e :: B)
        rw [hF] at hO
        simp only [okO] at hO
        rw [List.map_append, List.map_cons] at hO
        have hen : (e.toUInt8).toNat = e := by simp; omega
        obtain ⟨oA, oB, hA, hB, hout⟩ := rdO_cut x (kdS (2 * j)) (kdS (2 * j + 1)) a R e.toUInt8 (B.map fun b => b.toUInt8) hx6 (by rw [hen]; exact h1) (by rw [hen]; exact h2) (by rw [hen]; exact h3) (by rw [hen]; exact h4) (A ++ e :: B).length (A.map fun b => b.toUInt8) a o (by simp) hO.symm
        rw [hen] at hout
        have hLo : oA.length + (oB.length + 1) = o.length := by rw [hout]; simp
        rw [List.length_map] at hA hB
        have e1 := ho A
        have e2 := ho B
        rw [hA] at e1
        rw [hB] at e2
        refine ⟨oA, oB, ?_, ?_, hout⟩
        · cases hFA : rdS x (kdS (2 * j)) (kdS (2 * j + 1)) a R (arr A) (arr A).size 0 a [] with
          | error ic => rw [hFA] at e1; simp [okO] at e1
          | ok o' =>
            rw [hFA] at e1
            simp [okO] at e1
            subst e1
            simp only [dcEnd]
            rw [if_neg (by omega)]
        · cases hFB : rdS x (kdS (2 * j)) (kdS (2 * j + 1)) a R (arr B) (arr B).size 0 a [] with
          | error ic => rw [hFB] at e2; simp [okO] at e2
          | ok o' =>
            rw [hFB] at e2
            simp [okO] at e2
            subst e2
            simp only [dcEnd]
            rw [if_neg (by omega)]
end Go.Proofs.YtmhjjpdfjilobaaDoor
