import Derived.Test.YtehgeninocbpeaaDoorQZ
/-
  DERIVED. The document's zone; the blocks of its ParseMoment.
-/
namespace Go.Proofs.YtehgeninocbpeaaDoor.Tm
open Go Go.Proofs Go.RowKit

def dzV (x H M : Nat) : Int := if x = 45 then - (60 * (H : Int) + (M : Int)) else 60 * (H : Int) + (M : Int)
def dzK (x H M : Nat) : Bool := if 59 < M then false else if x = 45 then decide (1 ≤ 60 * H + M) && decide (60 * H + M ≤ 720) else decide (60 * H + M ≤ 840)
def PostZ (w : World) (x H M : Nat) (e : Ending) (w' : World) : Prop := ∃ z : Int, e = .returned (.tuple #[.int .i64 z, .bool (dzK x H M)]) ∧ (dzK x H M = true → z = dzV x H M) ∧ w = w'

set_option maxRecDepth 100000 in
set_option maxHeartbeats 2000000 in
theorem zone48_any (w : World) (u : ByteArray) (h5 : u.size = 5) (hd : cnt u 1 4 = 4) (x : Nat) (hx : (u.get! 0).toNat = x) (hx2 : x = 43 ∨ x = 45) : Calls Tryd.prog 40 #[.string u] w (PostZ w x (nv u 1 2) (nv u 3 2)) := by
  have D1 : Digs (u.extract 1 3) ∧ (u.extract 1 3).size ≤ 8 := ⟨digs_ext u 1 2 2 (by have := cnt_sub (s := u) (i := 1) 4 0 2 (by omega); simp only [Nat.add_zero] at this; omega), by rw [ByteArray.size_extract]; omega⟩
  have D3 : Digs (u.extract 3 5) ∧ (u.extract 3 5).size ≤ 8 := ⟨digs_ext u 3 2 2 (by have := cnt_sub (s := u) (i := 1) 4 2 2 (by omega); simp only [Nat.reduceAdd] at this; omega), by rw [ByteArray.size_extract]; omega⟩
  have l1 : nv u 1 2 < 100 := nv_lt u 1 2 2 (by have := cnt_sub (s := u) (i := 1) 4 0 2 (by omega); simp only [Nat.add_zero] at this; omega)
  have l3 : nv u 3 2 < 100 := nv_lt u 3 2 2 (by have := cnt_sub (s := u) (i := 1) 4 2 2 (by omega); simp only [Nat.reduceAdd] at this; omega)
  have n1 := fun W => number47_any W (u.extract 1 3) D1.1 D1.2
  have n3 := fun W => number47_any W (u.extract 3 5) D3.1 D3.2
  have e1 : val (u.extract 1 3).data.toList = nv u 1 2 := rfl
  have e3 : val (u.extract 3 5).data.toList = nv u 3 2 := rfl
  rw [e1] at n1
  rw [e3] at n3
  generalize nv u 1 2 = H at *
  generalize nv u 3 2 = M at *
  have h0 : 0 < u.size := by omega
  have hx0 : u[0].toNat = x := by rw [get_get! u 0 h0, hx]
  have hS : (5 : Int) ≤ (u.size : Int) := by omega
  have hS0 : (0 : Int) < (u.size : Int) := by omega
  clear D1 D3 e1 e3 hd hx h5
  unfold PostZ
  obtain ⟨K, hK⟩ : ∃ K, dzK x H M = K := ⟨_, rfl⟩
  obtain ⟨V, hV⟩ : ∃ V, dzV x H M = V := ⟨_, rfl⟩
  rw [hK, hV]
  have HKV : Hid (dzK x H M = K ∧ dzV x H M = V) := ⟨hK, hV⟩
  unfold dzK at hK
  unfold dzV at hV
  by_cases hM : 59 < M
  · rw [if_pos hM] at hK
    subst hK
    have hMI : decide (59 < (M : Int)) = true := by simp; omega
    clear hM hV hx2
    go_enter Tryd.func40, Tryd.ntmps40
    go_wp2_with (first | (go_at_call 38; refine Stop.mk ?_))
    refine Stop.out ((n1 _).mono ?_)
    rintro e W3 ⟨rfl, rfl⟩
    go_wp2_with (first | (go_at_call 38; refine Stop.mk ?_))
    refine Stop.out ((n3 _).mono ?_)
    rintro e W3 ⟨rfl, rfl⟩
    go_wp2
    exact bodyPost_ret (v := .tuple #[.int .i64 0, .bool false]) (by simp [results, Tryd.results40, go_sem]) rfl ⟨0, rfl, by simp, rfl⟩
  · rw [if_neg hM] at hK
    have hMI : decide (59 < (M : Int)) = false := by simp; omega
    rcases hx2 with rfl | rfl
    · rw [if_neg (by decide)] at hK hV
      have hKI : decide (60 * (H : Int) + (M : Int) ≤ 840) = K := by rw [← hK, Bool.eq_iff_iff]; simp; omega
      subst hV
      clear hM hK
      go_enter Tryd.func40, Tryd.ntmps40
      go_wp2_with (first | (go_at_call 38; refine Stop.mk ?_))
      refine Stop.out ((n1 _).mono ?_)
      rintro e W3 ⟨rfl, rfl⟩
      go_wp2_with (first | (go_at_call 38; refine Stop.mk ?_))
      refine Stop.out ((n3 _).mono ?_)
      rintro e W3 ⟨rfl, rfl⟩
      go_wp2
      exact bodyPost_ret (v := .tuple #[.int .i64 (60 * (H : Int) + (M : Int)), .bool K]) (by simp [results, Tryd.results40, go_sem]) rfl ⟨_, rfl, fun _ => rfl, rfl⟩
    · rw [if_pos rfl] at hK hV
      subst hV
      by_cases hv : 1 ≤ 60 * H + M
      · have hvI : decide (1 ≤ 60 * (H : Int) + (M : Int)) = true := by simp; omega
        have hKI : decide (60 * (H : Int) + (M : Int) ≤ 720) = K := by rw [← hK, decide_eq_true hv, Bool.true_and, Bool.eq_iff_iff]; simp; omega
        clear hM hK hv
        go_enter Tryd.func40, Tryd.ntmps40
        go_wp2_with (first | (go_at_call 38; refine Stop.mk ?_))
        refine Stop.out ((n1 _).mono ?_)
        rintro e W3 ⟨rfl, rfl⟩
        go_wp2_with (first | (go_at_call 38; refine Stop.mk ?_))
        refine Stop.out ((n3 _).mono ?_)
        rintro e W3 ⟨rfl, rfl⟩
        go_wp2
        exact bodyPost_ret (v := .tuple #[.int .i64 (- (60 * (H : Int) + (M : Int))), .bool K]) (by simp [results, Tryd.results40, go_sem]) rfl ⟨_, rfl, fun _ => rfl, rfl⟩
      · have hvI : decide (1 ≤ 60 * (H : Int) + (M : Int)) = false := by simp; omega
        rw [decide_eq_false hv, Bool.false_and] at hK
        subst hK
        clear hM hv
        go_enter Tryd.func40, Tryd.ntmps40
        go_wp2_with (first | (go_at_call 38; refine Stop.mk ?_))
        refine Stop.out ((n1 _).mono ?_)
        rintro e W3 ⟨rfl, rfl⟩
        go_wp2_with (first | (go_at_call 38; refine Stop.mk ?_))
        refine Stop.out ((n3 _).mono ?_)
        rintro e W3 ⟨rfl, rfl⟩
        go_wp2
        exact bodyPost_ret (v := .tuple #[.int .i64 (- (60 * (H : Int) + (M : Int))), .bool false]) (by simp [results, Tryd.results40, go_sem]) rfl ⟨_, rfl, by simp, rfl⟩

theorem MN.set {w W : World} {t : TypeId} {n : Nat} {f : Nat → Value} {B : Nat} (h : MN w W t n f) (hB : w.heap.size + 2 ≤ B) (i : Nat) (v : Value) : MN w (W.setCell ⟨B, i, none⟩ v) t n f :=
  ⟨row_kept h.r (grown_set (grown_refl _ (some B)) i v) (by omega), row_kept h.e (grown_set (grown_refl _ (some B)) i v) (by omega), h.b.setCell (p := ⟨B, i, none⟩) (by show _ ≤ B; omega) v⟩
structure PM (w W : World) (B : Nat) (f : Nat → Value) : Prop where
  m : MN w W 51 11 zm0
  row : W.rowIs B 51 11 f
  hB : w.heap.size + 2 ≤ B
theorem PM.set {w W : World} {B : Nat} {f : Nat → Value} (h : PM w W B f) (i : Nat) (v : Value) : PM w (W.setCell ⟨B, i, none⟩ v) B (up f i v) := ⟨h.m.set h.hB i v, h.row.set i v, h.hB⟩
theorem PM.on {w W W' : World} {B : Nat} {f : Nat → Value} (h : PM w W B f) (hb : Below W.heap.size W W') : PM w W' B f := ⟨h.m.on hb, row_on h.row hb, h.hB⟩
theorem PM.drew {w W : World} {B : Nat} {f : Nat → Value} (h : PM w W B f) : PM w W.drew B f := ⟨⟨h.m.r, h.m.e, h.m.b.drew⟩, h.row, h.hB⟩
def m1 : Nat → Value := fun k => #[Value.int .i64 1, .int .i64 1, .int .i64 1, .int .i64 0, .int .i64 0, .int .i64 0, .int .i64 0, .int .i64 0, .int .i64 0, .bool false, .int .i64 0].getD k undef
theorem PM.start {w W : World} (h : MN w W 51 11 zm0) (hl : w.heap.size + 2 ≤ W.heap.size) : PM w (W.alloc (.cells #[.int .i64 1, .int .i64 1, .int .i64 1, .int .i64 0, .int .i64 0, .int .i64 0, .int .i64 0, .int .i64 0, .int .i64 0, .bool false, .int .i64 0] 51)) W.heap.size m1 :=
  ⟨h.on ((Below.refl _ _).alloc (Nat.le_refl _) _), World.rowIs_alloc W _ 51 _ (row_lit _), hl⟩

/-- Where the first sign stands, or the end. -/
structure Sgn (s : ByteArray) (e : Nat) : Prop where
  le : e ≤ s.size
  no : ∀ k, k < e → (s.get! k).toNat ≠ 43 ∧ (s.get! k).toNat ≠ 45
  yes : e < s.size → (s.get! e).toNat = 43 ∨ (s.get! e).toNat = 45
end Go.Proofs.YtehgeninocbpeaaDoor.Tm
