import Derived.Test.YtngmleddlfkecaaDoorZ
namespace Go.Proofs.YtngmleddlfkecaaDoor
open Go Go.Proofs Go.RowKit

theorem VV.form {w : World} {B : Nat} {v : Value} {l : List (List Nat)} (h : VV w B v l) : ∃ ao cap, v = .slice ao l.length cap ∧ (0 < l.length → ∃ g, ao = some ⟨g, 0, none⟩ ∧ ∀ i, i < l.length → ∃ x, w.cell? ⟨g, i, none⟩ = some x ∧ V w x (l.getD i [])) := by
  obtain ⟨cells, h1, h2⟩ := h
  have hcl : cells.length = l.length := by simpa using h1.1
  rcases h1.2 with ⟨rfl, h0⟩ | ⟨g, cap, cur, rfl, hb, hg, hr⟩
  · exact ⟨none, 0, by rw [h0], by omega⟩
  · refine ⟨_, cap, rfl, fun _ => ⟨g, rfl, ?_⟩⟩
    intro i hi
    refine ⟨cells.getD i undef, ?_, (h2 i hi).v⟩
    have := h1.cellAt (g := g) (cap := cap) i (by omega)
    rw [this]
    simp [List.getD_eq_getElem?_getD, List.getElem?_eq_getElem (show i < cells.length by omega)]

set_option maxRecDepth 100000 in
/-- lists: the same. -/
theorem lists_same {w : World} {B1 B2 : Nat} {v1 v2 : Value} {l : List (List Nat)} (h1 : VV w B1 v1 l) (h2 : VV w B2 v2 l) (hs : ∀ x ∈ l, x.length ≤ 131072) (hl : l.length ≤ 400000) :
    Calls Tryd.prog 16 #[v1, v2] w fun e w' => e = .returned (.bool true) ∧ ∃ m, w' = w.drewN m := by
  obtain ⟨a1, c1, rfl, f1⟩ := h1.form
  obtain ⟨a2, c2, rfl, f2⟩ := h2.form
  obtain ⟨n, hn⟩ : ∃ n, l.length = n := ⟨_, rfl⟩
  rw [hn] at hl f1 f2 ⊢
  have HN : Hid (l.length = n) := hn
  have F1 : Hid (0 < n → ∃ g, a1 = some ⟨g, 0, none⟩ ∧ ∀ i, i < n → ∃ x, w.cell? ⟨g, i, none⟩ = some x ∧ V w x (l.getD i [])) := f1
  have F2 : Hid (0 < n → ∃ g, a2 = some ⟨g, 0, none⟩ ∧ ∀ i, i < n → ∃ x, w.cell? ⟨g, i, none⟩ = some x ∧ V w x (l.getD i [])) := f2
  clear f1 f2 h1 h2 hn
  go_enter Tryd.func16, Tryd.ntmps16
  go_wp2
  go_loopw [5] (fun i wr => ∃ k m : Nat, k ≤ n ∧ i = .int .i64 k ∧ wr = w.drewN m) (fun i _ => n - (intOf i).toNat)
  case atStart => exact ⟨0, 0, Nat.zero_le _, rfl, rfl⟩
  case round =>
    obtain ⟨k, m, hk, rfl, rfl⟩ := hrel
    by_cases hkn : k < n
    · obtain ⟨g1, rfl, e1⟩ := F1.out (by omega)
      obtain ⟨g2, rfl, e2⟩ := F2.out (by omega)
      obtain ⟨x1, hx1, hv1⟩ := e1 k hkn
      obtain ⟨x2, hx2, hv2⟩ := e2 k hkn
      have hlen : (l.getD k []).length ≤ 140737488351232 := by
        have hm : l.getD k [] ∈ l := by
          rw [List.getD_eq_getElem?_getD, List.getElem?_eq_getElem (by rw [HN.out]; exact hkn)]
          exact List.getElem_mem _
        exact Nat.le_trans (hs _ hm) (by decide)
      have c : ∀ j, Calls Tryd.prog 11 #[x1, x2] ((w.drewN m).drewN j) fun e w' => e = .returned (.bool true) ∧ ∃ i, w' = ((w.drewN m).drewN j).drewN i := by
        intro j
        have := bytes_any (w := (w.drewN m).drewN j) hv1 hv2 hlen
        rw [show decide (l.getD k [] = l.getD k []) = true by simp] at this
        exact this
      have HW : Hid (∃ i, w.drewN m = w.drewN i) := ⟨m, rfl⟩
      have hy1 : (w.drewN m).cell? ⟨g1, k, none⟩ = some x1 := hx1
      have hy2 : (w.drewN m).cell? ⟨g2, k, none⟩ = some x2 := hx2
      clear hx1 hx2 hv1 hv2 e1 e2
      generalize w.drewN m = W at c HW hy1 hy2 ⊢
      go_wp2
      go_quiet (first | (go_at_call 11; exact Calls.quiet_of (c _)) | fail)
      go_wp2
      go_roundw
      case rel =>
        obtain ⟨i, hi⟩ := HW.out
        exact ⟨k + 1, i + nq, by omega, by go_num, by rw [hi, World.drewN_drewN]⟩
      case measure => simp [intOf]; omega
    · have hkn' : k = n := by omega
      subst hkn'
      go_wp2
      go_ret
      exact ⟨rfl, _, rfl⟩

/-- The last byte turned. -/
def turnL (bs : List Nat) : List Nat := bs.set (bs.length - 1) (bs.getD (bs.length - 1) 0 ^^^ 255)

theorem xor255 (y : Nat) (h : y < 256) : bits .xor .u8 (y : Int) 255 = ((y ^^^ 255 : Nat) : Int) ∧ y ^^^ 255 < 256 :=
  ⟨u8_xor_nat y 255 h (by decide), Nat.xor_lt_two_pow (n := 8) h (by decide)⟩

theorem u8s_set (bs : List Nat) (k x : Nat) : (u8s bs).set k (.int .u8 (x : Nat)) = u8s (bs.set k x) := by simp [u8s, List.map_set]

theorem set_lt {bs : List Nat} (h : ∀ x ∈ bs, x < 256) (k x : Nat) (hx : x < 256) : ∀ y ∈ bs.set k x, y < 256 := by
  intro y hy
  rcases List.mem_or_eq_of_mem_set hy with hy | rfl
  · exact h y hy
  · exact hx

theorem Own.shape {w : World} {B : Nat} {v : Value} {bs : List Nat} (h : Own w B v bs) : ∃ a p, v = .slice a bs.length p := by
  rcases h.1.2 with ⟨rfl, h0⟩ | ⟨g, cap, cur, rfl, _⟩
  · exact ⟨none, 0, by rw [h0]⟩
  · exact ⟨_, _, rfl⟩

theorem Own.store {w : World} {B g cap k x : Nat} {bs : List Nat} (h : Own w B (.slice (some ⟨g, 0, none⟩) bs.length cap) bs) (hx : x < 256) : Own (w.setCell ⟨g, k, none⟩ (.int .u8 (x : Nat))) B (.slice (some ⟨g, 0, none⟩) (bs.set k x).length cap) (bs.set k x) := by
  refine ⟨?_, set_lt h.2 k x hx⟩
  have := (h.1.stored k (.int .u8 (x : Nat))).1
  rw [u8s_set] at this
  rw [List.length_set]
  exact this

set_option maxRecDepth 100000 in
/-- turned. -/
theorem turned_any {w : World} {v : Value} {bs : List Nat} (h : V w v bs) (hl : bs.length ≤ 70368744177664) :
    Calls Tryd.prog 18 #[v] w fun e w' => ∃ v', e = .returned v' ∧ Own w' w.heap.size v' (turnL bs) ∧ Below w.heap.size w w' := by
  have c := copy_any h hl
  go_enter Tryd.func18, Tryd.ntmps18
  go_wp2_with (go_at_call 8; fail)
  refine c.mono ?_
  rintro e W1 ⟨v', rfl, hO, hb⟩
  obtain ⟨a, p, rfl⟩ := hO.shape
  by_cases hp : 0 < bs.length
  · obtain ⟨g, rfl⟩ : ∃ g, a = some ⟨g, 0, none⟩ := by
      rcases hO.1.2 with ⟨he, h0⟩ | ⟨g, cap, cur, he, _⟩
      · omega
      · simp only [Value.slice.injEq] at he; exact ⟨g, he.1⟩
    have hge : w.heap.size ≤ g := (hO.1.lt g rfl).1
    have hy := getD_lt hO.2 (bs.length - 1)
    have hx := xor255 _ hy
    have hc : W1.cell? ⟨g, bs.length - 1, none⟩ = some (.int .u8 (bs.getD (bs.length - 1) 0 : Nat)) := by
      rw [hO.1.cellAt (g := g) (cap := p) (bs.length - 1) (by omega), u8s_get bs _ (by omega)]
    have hfz : W1.frozen? ⟨g, bs.length - 1, none⟩ = false := hO.1.frozenAt _
    have HO : Hid (Own W1 w.heap.size (.slice (some ⟨g, 0, none⟩) bs.length p) bs) := hO
    have HT : Hid (turnL bs = bs.set (bs.length - 1) (bs.getD (bs.length - 1) 0 ^^^ 255)) := rfl
    obtain ⟨y, hyy⟩ : ∃ y, bs.getD (bs.length - 1) 0 = y := ⟨_, rfl⟩
    rw [hyy] at hc hx hy
    have HY : Hid (bs.getD (bs.length - 1) 0 = y) := hyy
    obtain ⟨hx1, hx2⟩ := hx
    have HX : Hid (y ^^^ 255 < 256) := hx2
    obtain ⟨n, hn⟩ : ∃ n, bs.length = n := ⟨_, rfl⟩
    have HN : Hid (bs.length = n) := hn
    rw [hn] at hc hfz hp hl ⊢
    clear c hO hyy hx2 hn h hy
    go_wp2
    go_ret
    refine ⟨_, rfl, ?_, hb.setCell (p := ⟨g, n - 1, none⟩) hge _⟩
    have := HO.out.store (k := n - 1) (x := y ^^^ 255) HX.out
    rw [HT.out, HY.out, HN.out]
    rw [List.length_set, HN.out] at this
    exact this
  · have h0 : bs = [] := List.eq_nil_of_length_eq_zero (by omega)
    subst h0
    go_wp2
    go_ret
    exact ⟨_, rfl, hO, hb⟩
end Go.Proofs.YtngmleddlfkecaaDoor
