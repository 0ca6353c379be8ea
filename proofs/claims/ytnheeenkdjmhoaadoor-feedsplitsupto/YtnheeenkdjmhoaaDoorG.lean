
import Derived.Test.YtnheeenkdjmhoaaDoorF
import Derived.Laws.IdiomStrings
import Derived.Lib.BufferRead
/-
  DERIVED. Bytes as a text.
-/
namespace Go.Proofs.YtnheeenkdjmhoaaDoor
open Go Go.Proofs Go.RowKit Go.Deep

theorem add_at (b o q : Nat) : (⟨b, o, none⟩ : Addr).add q = ⟨b, o + q, none⟩ := by
  unfold Addr.add
  simp
/-- Bytes, where they lie. -/
def BS (w : World) (ao : Option Addr) (s : ByteArray) : Prop := 0 < s.size → ∃ b off, ao = some ⟨b, off, none⟩ ∧ ∀ k (h : k < s.size), w.cell? ⟨b, off + k, none⟩ = some (.int .u8 ((s[k]'h).toNat : Int))
theorem BS.on {w w' : World} {ao : Option Addr} {s : ByteArray} (h : BS w ao s) (hb : Below w.heap.size w w') : BS w' ao s := fun hz => by
  obtain ⟨b, off, e, hc⟩ := h hz
  exact ⟨b, off, e, fun k hk => (hb.cell (p := ⟨b, off + k, none⟩) (World.block_lt_of_cell? w _ (hc k hk))).trans (hc k hk)⟩

theorem arr_size (bs : List Nat) : (arr bs).size = bs.length := by simp [arr, ByteArray.size]
theorem arr_at {bs : List Nat} (hb : ∀ x ∈ bs, x < 256) {k : Nat} (hk : k < bs.length) (h : k < (arr bs).size) : ((arr bs)[k]'h).toNat = bs.getD k 0 := by
  have e : (arr bs)[k]'h = (bs[k]'hk).toUInt8 := by
    show (arr bs).data[k] = _
    simp [arr]
  rw [e, List.getD_eq_getElem?_getD, List.getElem?_eq_getElem hk]
  have := hb _ (List.getElem_mem hk)
  simp
  omega

theorem V.bs {w : World} {v : Value} {bs : List Nat} (h : V w v bs) : ∃ ao cap, v = .slice ao (arr bs).size cap ∧ (arr bs).size ≤ cap ∧ BS w ao (arr bs) := by
  rcases h with ⟨ao, cap, rfl, rfl⟩ | ⟨b, off, cap, rfl, hp, hc, ha, hb⟩
  · exact ⟨ao, cap, rfl, Nat.zero_le _, fun h => by simp [arr_size] at h⟩
  · refine ⟨_, cap, by rw [arr_size], by rw [arr_size]; exact hc, fun _ => ⟨b, off, rfl, fun k hk => ?_⟩⟩
    have hk' : k < bs.length := by rw [arr_size] at hk; exact hk
    rw [arr_at hb hk' hk]
    exact ha k hk'
theorem BS.conv {w : World} {ao : Option Addr} {s : ByteArray} {cap : Nat} (h : BS w ao s) : (convert 22 9 (.slice ao s.size cap)).run Tryd.prog w = .ok (.string s) w := by
  cases ao with
  | none =>
    have h0 : s.size = 0 := by
      rcases Nat.eq_zero_or_pos s.size with h0 | h0
      · exact h0
      · obtain ⟨b, off, e, _⟩ := h h0; cases e
    have : s = ⟨#[]⟩ := by
      have : s.data = #[] := Array.eq_empty_of_size_eq_zero h0
      cases s; simp_all
    subst this
    exact Lib.run_convert_nil_bytes w 22 9 5 cap Tryd.underlying22 Tryd.underlying5 Tryd.underlying9
  | some ad =>
    have := run_convert_bytes_back (P := Tryd.prog) w 22 9 5 ad cap s.data.toList Tryd.underlying22 Tryd.underlying5 Tryd.underlying9 (fun j hj => ?_)
    · simpa using this
    · have hj' : j < s.size := by simpa using hj
      obtain ⟨b, off, e, hc⟩ := h (by omega)
      cases e
      rw [add_at, hc j hj']
      rfl

theorem own_v {w : World} {B : Nat} {v : Value} {bs : List Nat} (h : w.ownsRow B 5 1 v bs.length (u8s bs)) (hb : ∀ x ∈ bs, x < 256) : V w v bs := by
  rcases Nat.eq_zero_or_pos bs.length with h0 | hp
  · have : bs = [] := List.eq_nil_of_length_eq_zero h0
    subst this
    rcases h.2 with ⟨rfl, _⟩ | ⟨g, cap, cur, hv, _⟩
    · exact .inl ⟨_, _, rfl, rfl⟩
    · exact .inl ⟨_, _, hv, rfl⟩
  · rcases h.2 with ⟨_, h0⟩ | ⟨g, cap, cur, rfl, _, _, hc, _⟩
    · omega
    · refine .inr ⟨g, 0, cap, rfl, hp, hc, fun k hk => ?_, hb⟩
      rw [Nat.zero_add, h.cellAt k (by omega), u8s_get bs k hk]

/-- A framer's text as a text. -/
theorem FR.conv {w : World} {q : Nat} {u : Value} {st : Int} {tx : List Nat} {lg : Bool} (h : FR w q u st tx lg) : (convert 22 9 u).run Tryd.prog w = .ok (.string (arr tx)) w := by
  obtain ⟨ao, cap, rfl, _, hb⟩ := (own_v h.own h.byt).bs
  exact hb.conv
end Go.Proofs.YtnheeenkdjmhoaaDoor
