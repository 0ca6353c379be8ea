import Derived.Test.YtngmleddlfkecaaDoorG
namespace Go.Proofs.YtngmleddlfkecaaDoor
open Go Go.Proofs Go.RowKit

/-- What was lent, with its marks. -/
def Lent (w : World) (B g : Nat) (bs : List Nat) : Prop := Own w B (.slice (some ⟨g, 0, none⟩) (bs.length + 3) (bs.length + 3)) (bs ++ [160, 161, 162])

theorem Lent.next {w w' : World} {B g : Nat} {bs : List Nat} (h : Lent w B g bs) (hb : Below w.heap.size w w') : Lent w' B g bs := Own.next h hb

theorem Lent.cell {w : World} {B g : Nat} {bs : List Nat} (h : Lent w B g bs) (k : Nat) (hk : k < bs.length + 3) : w.cell? ⟨g, k, none⟩ = some (.int .u8 ((bs ++ [160, 161, 162]).getD k 0 : Nat)) := by
  have h1 := h.1
  simp only [List.length_append, List.length_cons, List.length_nil] at h1
  have := h1.cellAt (g := g) (cap := bs.length + 3) k (by omega)
  rw [this, u8s_get _ k (by simpa using hk)]

theorem Lent.v {w : World} {B g : Nat} {bs : List Nat} (h : Lent w B g bs) {cap : Nat} (hcap : bs.length ≤ cap) : V w (.slice (some ⟨g, 0, none⟩) bs.length cap) bs := by
  by_cases hp : 0 < bs.length
  · refine .inr ⟨g, 0, cap, rfl, hp, hcap, ?_, fun x hx => h.2 x (by simp [hx])⟩
    intro k hk
    rw [Nat.zero_add, h.cell k (by omega)]
    simp [List.getD_eq_getElem?_getD, List.getElem?_append_left hk]
  · have h0 : bs = [] := List.eq_nil_of_length_eq_zero (by omega)
    subst h0
    exact .inl ⟨_, _, rfl, rfl⟩

set_option maxRecDepth 100000 in
/-- Kept: yes. -/
theorem kept_any {w : World} {v : Value} {B g : Nat} {bs : List Nat} (hx : Lent w B g bs) (h : V w v bs) (hl : bs.length ≤ 70368744177664) :
    Calls Tryd.prog 17 #[.slice (some ⟨g, 0, none⟩) bs.length (bs.length + 3), v] w fun e w' => e = .returned (.bool true) ∧ ∃ m, w' = w.drewN m := by
  have hby := bytes_any (hx.v (cap := bs.length + 3) (by omega)) h (by omega)
  rw [show decide (bs = bs) = true by simp] at hby
  obtain ⟨ao, cap, rfl, _, _⟩ := h.form
  have hc0 := hx.cell bs.length (by omega)
  have hc1 := hx.cell (bs.length + 1) (by omega)
  have hc2 := hx.cell (bs.length + 2) (by omega)
  simp [List.getD_eq_getElem?_getD] at hc0 hc1 hc2
  clear hx h
  obtain ⟨n, hn⟩ : ∃ n, bs.length = n := ⟨_, rfl⟩
  rw [hn] at hby hl hc0 hc1 hc2 ⊢
  clear hn
  go_enter Tryd.func17, Tryd.ntmps17
  go_wp2_with (go_at_call 11; refine hby.mono ?_; rintro e w' ⟨rfl, m, rfl⟩)
  refine wp_loop_rounds 4 ?_
  rw [rounds_succ]
  go_wp2
  rw [rounds_succ]
  go_wp2
  rw [rounds_succ]
  go_wp2
  rw [rounds_succ]
  go_wp2
  go_ret
  exact ⟨rfl, _, rfl⟩
end Go.Proofs.YtngmleddlfkecaaDoor
